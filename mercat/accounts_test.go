package mercat_test

import (
	"testing"

	"mercat/api"
)

func TestPayAndDraw(t *testing.T) {
	m := newMarket(t, 3, 1, 50)
	expect(t, "P4: Pay", m.Pay(0, 1), api.OK)
	expect(t, "P4: Pay", m.Pay(2, 700), api.OK)
	expect(t, "P4: Pay again", m.Pay(2, 50), api.OK)
	expectAccount(t, m, 0, 1)
	expectAccount(t, m, 1, 0)
	expectAccount(t, m, 2, 750)
	expect(t, "P4: Draw", m.Draw(2, 749), api.OK)
	expectAccount(t, m, 2, 1)
	expect(t, "P4: Draw of more than is left", m.Draw(2, 2), api.ErrMoney)
	expect(t, "P4: Draw of what another one has", m.Draw(1, 1), api.ErrMoney)
	expect(t, "P4: Draw of the last", m.Draw(2, 1), api.OK)
	expect(t, "P4: Draw of nothing", m.Draw(2, 1), api.ErrMoney)
	expectAccount(t, m, 0, 1)
	expectAccount(t, m, 2, 0)
}

func TestMoneyOfAllIsLimited(t *testing.T) {
	m := newMarket(t, 3, 1, 0)
	expect(t, "P4: Pay of all at once", m.Pay(1, api.MaxMoney), api.OK)
	for trader := range 3 {
		expect(t, "P4: Pay of one more", m.Pay(trader, 1), api.ErrFull)
		expect(t, "P4: Pay of twice the most", m.Pay(trader, api.MaxMoney), api.ErrFull)
	}
	expect(t, "P4: Draw", m.Draw(1, 10), api.OK)
	expect(t, "P4: Pay of one above", m.Pay(0, 11), api.ErrFull)
	expect(t, "P4: Pay up to the most", m.Pay(0, 10), api.OK)
	expect(t, "P4: Pay of one more", m.Pay(2, 1), api.ErrFull)
	expectAccount(t, m, 0, 10)
	expectAccount(t, m, 1, api.MaxMoney-10)
	expectAccount(t, m, 2, 0)
	expect(t, "P4: Draw of all", m.Draw(1, api.MaxMoney), api.ErrMoney)
	expect(t, "P4: Draw", m.Draw(1, api.MaxMoney-10), api.OK)
	expect(t, "P4: Pay up to the most again", m.Pay(2, api.MaxMoney-10), api.OK)
}

func TestDrawOfAllThereMayBe(t *testing.T) {
	m := newMarket(t, 1, 1, 0)
	expect(t, "P4: Pay", m.Pay(0, api.MaxMoney), api.OK)
	expect(t, "P4: Draw of one above", m.Draw(0, api.MaxMoney+1), api.ErrNumber)
	expect(t, "P4: Draw of all", m.Draw(0, api.MaxMoney), api.OK)
	expectAccount(t, m, 0, 0)
}

func TestWrongMoneyIsRefused(t *testing.T) {
	m := newMarket(t, 2, 1, 0)
	expect(t, "P4: Pay", m.Pay(0, 100), api.OK)
	before := picture(m)
	for _, trader := range append([]int{2}, farOff...) {
		for _, money := range []int{1, 0, -1, api.MaxMoney, api.MaxMoney + 1} {
			expect(t, "P4: Pay of no trader", m.Pay(trader, money), api.ErrTrader)
			expect(t, "P4: Draw of no trader", m.Draw(trader, money), api.ErrTrader)
		}
	}
	for _, money := range []int{-1 << 62, -api.MaxMoney, -1, 0, api.MaxMoney + 1, 1<<63 - 1} {
		expect(t, "P4: Pay of a wrong number", m.Pay(0, money), api.ErrNumber)
		expect(t, "P4: Draw of a wrong number", m.Draw(0, money), api.ErrNumber)
	}
	expect(t, "P4: Draw of too much", m.Draw(0, 101), api.ErrMoney)
	expect(t, "P4: Pay of too much", m.Pay(1, api.MaxMoney), api.ErrFull)
	if after := picture(m); after != before {
		t.Errorf("P1: refused calls changed %s to %s", before, after)
	}
}

func TestBringAndTake(t *testing.T) {
	m := newMarket(t, 2, 3, 0, 0)
	expect(t, "P5: Bring of one", m.Bring(1, 0, 2, 1), api.OK)
	expect(t, "P5: Bring of the most", m.Bring(1, 0, 2, api.MaxQty), api.OK)
	expect(t, "P5: Bring to another hall", m.Bring(1, 1, 2, 7), api.OK)
	expectAccount(t, m, 0, 0)
	expectAccount(t, m, 1, 0, api.Stock{Hall: 0, Good: 2, Free: api.MaxQty + 1}, api.Stock{Hall: 1, Good: 2, Free: 7})
	expect(t, "P5: Take of what lies in another hall", m.Take(1, 1, 2, 8), api.ErrStock)
	expect(t, "P5: Take of another good", m.Take(1, 1, 1, 1), api.ErrStock)
	expect(t, "P5: Take of another trader's", m.Take(0, 1, 2, 1), api.ErrStock)
	expect(t, "P5: Take of all there", m.Take(1, 1, 2, 7), api.OK)
	expect(t, "P5: Take of nothing", m.Take(1, 1, 2, 1), api.ErrStock)
	expect(t, "P5: Take of the most", m.Take(1, 0, 2, api.MaxQty), api.OK)
	expectAccount(t, m, 1, 0, api.Stock{Hall: 0, Good: 2, Free: 1})
}

func TestPiecesOfAllAreLimited(t *testing.T) {
	m := newMarket(t, 3, 2, 0, 0, 0)
	bringMany(t, m, 0, 0, 1, api.MaxStock/2)
	bringMany(t, m, 1, 2, 1, api.MaxStock/2-10)
	expect(t, "P5: Bring of one above", m.Bring(2, 1, 1, 11), api.ErrFull)
	expect(t, "P5: Bring up to the most", m.Bring(2, 1, 1, 10), api.OK)
	expect(t, "P5: Bring of one more", m.Bring(0, 0, 1, 1), api.ErrFull)
	expect(t, "P5: Bring of one more elsewhere", m.Bring(2, 2, 1, 1), api.ErrFull)
	expect(t, "P5: Bring of another good", m.Bring(2, 2, 0, api.MaxQty), api.OK)
	expect(t, "P11: Ship", m.Ship(0, 0, 2, 1, 5000), api.OK)
	expect(t, "P5: Bring while some are coming", m.Bring(0, 0, 1, 1), api.ErrFull)
	tickTimes(t, m, 2*api.Way)
	expect(t, "P5: Bring after they came", m.Bring(0, 0, 1, 1), api.ErrFull)
	expect(t, "P5: Take", m.Take(0, 2, 1, 3), api.OK)
	expect(t, "P5: Bring of one above what went", m.Bring(1, 0, 1, 4), api.ErrFull)
	expect(t, "P5: Bring of what went", m.Bring(1, 0, 1, 3), api.OK)
}

func TestWrongPiecesAreRefused(t *testing.T) {
	m := newMarket(t, 2, 3, 0, 0)
	expect(t, "P5: Bring", m.Bring(0, 1, 2, 100), api.OK)
	before := picture(m)
	both := func(what string, trader, hall, good, pieces int, want api.Errno) {
		t.Helper()
		expect(t, "P5: Bring with "+what, m.Bring(trader, hall, good, pieces), want)
		expect(t, "P5: Take with "+what, m.Take(trader, hall, good, pieces), want)
	}
	for _, n := range farOff {
		both("no trader", n, n, n, n, api.ErrTrader)
		both("no hall", 0, n, n, n, api.ErrHall)
		both("no good", 0, 1, n, n, api.ErrGood)
		both("a wrong number", 0, 1, 2, n, api.ErrNumber)
	}
	both("one trader too far", 2, 2, 3, 0, api.ErrTrader)
	both("one hall too far", 0, 2, 3, 0, api.ErrHall)
	both("one good too far", 0, 1, 3, 0, api.ErrGood)
	both("no pieces", 0, 1, 2, 0, api.ErrNumber)
	both("one piece too many", 0, 1, 2, api.MaxQty+1, api.ErrNumber)
	expect(t, "P5: Take of one too many", m.Take(0, 1, 2, 101), api.ErrStock)
	if after := picture(m); after != before {
		t.Errorf("P1: refused calls changed %s to %s", before, after)
	}
}

func TestAccountIsOrderedAndWithoutGaps(t *testing.T) {
	m := newMarket(t, 2, 3, 0, 0, 0)
	expect(t, "Pay", m.Pay(0, 9), api.OK)
	for _, b := range [][3]int{{2, 2, 1}, {2, 0, 2}, {0, 2, 3}, {1, 1, 4}, {0, 0, 5}} {
		expect(t, "Bring", m.Bring(0, b[0], b[1], b[2]), api.OK)
	}
	expect(t, "Bring", m.Bring(1, 1, 0, 6), api.OK)
	expectAccount(t, m, 0, 9,
		api.Stock{Hall: 0, Good: 0, Free: 5}, api.Stock{Hall: 0, Good: 2, Free: 3}, api.Stock{Hall: 1, Good: 1, Free: 4},
		api.Stock{Hall: 2, Good: 0, Free: 2}, api.Stock{Hall: 2, Good: 2, Free: 1})
	expect(t, "Take", m.Take(0, 1, 1, 4), api.OK)
	expect(t, "Ship", m.Ship(0, 0, 1, 2, 3), api.OK)
	expectAccount(t, m, 0, 9,
		api.Stock{Hall: 0, Good: 0, Free: 5}, api.Stock{Hall: 1, Good: 2, Coming: 3},
		api.Stock{Hall: 2, Good: 0, Free: 2}, api.Stock{Hall: 2, Good: 2, Free: 1})
	expectAccount(t, m, 1, 0, api.Stock{Hall: 1, Good: 0, Free: 6})
}

func TestAccountOfNoTrader(t *testing.T) {
	m := newMarket(t, 3, 1, 0)
	for trader := range 3 {
		expect(t, "Pay", m.Pay(trader, 5), api.OK)
		expect(t, "Bring", m.Bring(trader, 0, 0, 5), api.OK)
	}
	for _, trader := range append([]int{3, api.MaxTraders}, farOff...) {
		if a, e := m.Account(trader); e != api.ErrTrader || a.Free != 0 || a.Held != 0 || len(a.Goods) != 0 {
			t.Errorf("P6: Account(%d) = %+v, %d, want %d and nothing", trader, a, e, api.ErrTrader)
		}
	}
}

func TestAccountIsTheCallers(t *testing.T) {
	m := newMarket(t, 1, 2, 0, 0)
	expect(t, "Bring", m.Bring(0, 0, 0, 1), api.OK)
	expect(t, "Bring", m.Bring(0, 0, 1, 2), api.OK)
	expect(t, "Bring", m.Bring(0, 1, 0, 3), api.OK)
	before := picture(m)
	first, _ := m.Account(0)
	second, _ := m.Account(0)
	room := first.Goods[:cap(first.Goods)]
	for i := range room {
		room[i] = api.Stock{Hall: 99, Free: -1}
	}
	if after := picture(m); after != before {
		t.Errorf("P2: writing into an account changed the market to %s", after)
	}
	if second.Goods[0] != (api.Stock{Free: 1}) {
		t.Errorf("P2: writing into an account changed another: %+v", second)
	}
}
