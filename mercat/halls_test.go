package mercat_test

import (
	"testing"

	"mercat/api"
	"mercat/mercat"
)

func TestShipTakesTicksForEachHallBetween(t *testing.T) {
	for from := range api.MaxHalls {
		for to := range api.MaxHalls {
			if from != to {
				shipBetween(t, from, to, api.Way*max(from-to, to-from))
			}
		}
	}
}

func shipBetween(t *testing.T, from, to, ticks int) {
	t.Helper()
	m := newMarket(t, 2, 2, 0, 0, 0, 0)
	tickTimes(t, m, 5)
	expect(t, "P5: Bring", m.Bring(1, from, 1, 30), api.OK)
	expect(t, "P11: Ship", m.Ship(1, from, to, 1, 30), api.OK)
	for range ticks {
		expectAccount(t, m, 1, 0, api.Stock{Hall: to, Good: 1, Coming: 30})
		expect(t, "P5: Take of what left", m.Take(1, from, 1, 1), api.ErrStock)
		expect(t, "P5: Take of what is coming", m.Take(1, to, 1, 1), api.ErrStock)
		expect(t, "P11: Ship of what is coming", m.Ship(1, to, from, 1, 1), api.ErrStock)
		expect(t, "P11: Tick", m.Tick(), api.OK)
	}
	expectAccount(t, m, 1, 0, api.Stock{Hall: to, Good: 1, Free: 30})
	expect(t, "P11: Tick", m.Tick(), api.OK)
	expectAccount(t, m, 1, 0, api.Stock{Hall: to, Good: 1, Free: 30})
	expectAccount(t, m, 0, 0)
	expect(t, "P5: Take of what came", m.Take(1, to, 1, 30), api.OK)
}

func TestLoadsComeEachAtItsTime(t *testing.T) {
	m := newMarket(t, 2, 2, 0, 0, 0, 0)
	expect(t, "P5: Bring", m.Bring(0, 3, 0, 100), api.OK)
	expect(t, "P5: Bring", m.Bring(1, 1, 0, 40), api.OK)
	expect(t, "P11: Ship to the farthest", m.Ship(0, 3, 0, 0, 10), api.OK)
	expect(t, "P11: Ship to the next", m.Ship(0, 3, 2, 0, 20), api.OK)
	expect(t, "P11: Ship of another trader", m.Ship(1, 1, 0, 0, 40), api.OK)
	tickTimes(t, m, 1)
	expect(t, "P11: Ship to the next, later", m.Ship(0, 3, 2, 0, 30), api.OK)
	expectAccount(t, m, 0, 0, api.Stock{Hall: 0, Coming: 10}, api.Stock{Hall: 2, Coming: 50}, api.Stock{Hall: 3, Free: 40})
	tickTimes(t, m, 1)
	expectAccount(t, m, 0, 0, api.Stock{Hall: 0, Coming: 10}, api.Stock{Hall: 2, Free: 20, Coming: 30}, api.Stock{Hall: 3, Free: 40})
	expectAccount(t, m, 1, 0, api.Stock{Hall: 0, Free: 40})
	tickTimes(t, m, 1)
	expectAccount(t, m, 0, 0, api.Stock{Hall: 0, Coming: 10}, api.Stock{Hall: 2, Free: 50}, api.Stock{Hall: 3, Free: 40})
	tickTimes(t, m, 2)
	expectAccount(t, m, 0, 0, api.Stock{Hall: 0, Coming: 10}, api.Stock{Hall: 2, Free: 50}, api.Stock{Hall: 3, Free: 40})
	tickTimes(t, m, 1)
	expectAccount(t, m, 0, 0, api.Stock{Hall: 0, Free: 10}, api.Stock{Hall: 2, Free: 50}, api.Stock{Hall: 3, Free: 40})
}

func TestShipOfTheMost(t *testing.T) {
	m := newMarket(t, 1, 1, 0, 0)
	bringMany(t, m, 0, 0, 0, api.MaxQty+5)
	expect(t, "P11: Ship of one too many", m.Ship(0, 0, 1, 0, api.MaxQty+1), api.ErrNumber)
	expect(t, "P11: Ship of the most", m.Ship(0, 0, 1, 0, api.MaxQty), api.OK)
	expect(t, "P11: Ship of more than is left", m.Ship(0, 0, 1, 0, 6), api.ErrStock)
	expect(t, "P11: Ship of all that is left", m.Ship(0, 0, 1, 0, 5), api.OK)
	expectAccount(t, m, 0, 0, api.Stock{Hall: 1, Coming: api.MaxQty + 5})
}

func TestLoadsUnderWayAreLimited(t *testing.T) {
	m := newMarket(t, 2, 1, 0, 0, 0)
	expect(t, "P5: Bring", m.Bring(0, 1, 0, 100), api.OK)
	expect(t, "P5: Bring", m.Bring(1, 0, 0, 100), api.OK)
	for i := range api.MaxLoads {
		if i%2 == 0 {
			expect(t, "P11: Ship to the next", m.Ship(0, 1, 2, 0, 1), api.OK)
		} else {
			expect(t, "P11: Ship over two", m.Ship(1, 0, 2, 0, 1), api.OK)
		}
	}
	before := picture(m)
	expect(t, "P11: Ship of one load more", m.Ship(0, 1, 2, 0, 1), api.ErrFull)
	expect(t, "P11: Ship of another trader's", m.Ship(1, 0, 1, 0, 1), api.ErrFull)
	expect(t, "P11: Ship of what is not there", m.Ship(0, 1, 2, 0, 91), api.ErrStock)
	if after := picture(m); after != before {
		t.Errorf("P1: refused calls changed %s to %s", before, after)
	}
	tickTimes(t, m, api.Way)
	for range api.MaxLoads / 2 {
		expect(t, "P11: Ship after half of them came", m.Ship(0, 1, 0, 0, 1), api.OK)
	}
	expect(t, "P11: Ship of one load more", m.Ship(0, 1, 0, 0, 1), api.ErrFull)
	expectAccount(t, m, 0, 0, api.Stock{Hall: 0, Coming: 10}, api.Stock{Hall: 1, Free: 80}, api.Stock{Hall: 2, Free: 10})
	expectAccount(t, m, 1, 0, api.Stock{Hall: 0, Free: 90}, api.Stock{Hall: 2, Coming: 10})
}

func TestWrongLoadsAreRefused(t *testing.T) {
	m := newMarket(t, 2, 2, 0, 0, 0)
	expect(t, "P5: Bring", m.Bring(0, 1, 1, 100), api.OK)
	before := picture(m)
	for _, n := range farOff {
		expect(t, "P11: Ship of no trader", m.Ship(n, n, n, n, n), api.ErrTrader)
		expect(t, "P11: Ship from no hall", m.Ship(0, n, 1, n, n), api.ErrHall)
		expect(t, "P11: Ship to no hall", m.Ship(0, 1, n, n, n), api.ErrHall)
		expect(t, "P11: Ship from a hall to itself", m.Ship(0, 1, 1, n, n), api.ErrHall)
		expect(t, "P11: Ship of no good", m.Ship(0, 1, 0, n, n), api.ErrGood)
		expect(t, "P11: Ship of a wrong number", m.Ship(0, 1, 0, 1, n), api.ErrNumber)
	}
	expect(t, "P11: Ship of one trader too far", m.Ship(2, 3, 3, 2, 0), api.ErrTrader)
	expect(t, "P11: Ship from one hall too far", m.Ship(0, 3, 1, 2, 0), api.ErrHall)
	expect(t, "P11: Ship to one hall too far", m.Ship(0, 1, 3, 2, 0), api.ErrHall)
	expect(t, "P11: Ship of one good too far", m.Ship(0, 1, 0, 2, 0), api.ErrGood)
	expect(t, "P11: Ship of no pieces", m.Ship(0, 1, 0, 1, 0), api.ErrNumber)
	expect(t, "P11: Ship of one too many", m.Ship(0, 1, 0, 1, 101), api.ErrStock)
	expect(t, "P11: Ship of what another one has", m.Ship(1, 1, 0, 1, 1), api.ErrStock)
	expect(t, "P11: Ship of what lies elsewhere", m.Ship(0, 0, 1, 1, 1), api.ErrStock)
	tickTimes(t, m, 3*api.Way)
	if after := picture(m); after != before {
		t.Errorf("P1: refused calls changed %s to %s", before, after)
	}
}

func TestTimeEnds(t *testing.T) {
	m := newMarket(t, 1, 1, 0, 0)
	expect(t, "P5: Bring", m.Bring(0, 0, 0, 3), api.OK)
	for tick := range api.MaxTime - 1 {
		if e := m.Tick(); e != api.OK {
			t.Fatalf("P11: Tick at time %d = %d", tick, e)
		}
	}
	expect(t, "P11: Ship just ahead of the end", m.Ship(0, 0, 1, 0, 1), api.OK)
	expect(t, "P11: the last Tick", m.Tick(), api.OK)
	expect(t, "P11: Ship at the end", m.Ship(0, 0, 1, 0, 1), api.OK)
	for range 2 * api.Way {
		expect(t, "P11: Tick at the end", m.Tick(), api.ErrFull)
	}
	expectAccount(t, m, 0, 0, api.Stock{Hall: 0, Free: 1}, api.Stock{Hall: 1, Coming: 2})
}

func TestShipAndTickMakeAndLoseNothing(t *testing.T) {
	m := newMarket(t, 3, 2, 0, 0, 0, 0)
	want := map[[2]int]int{}
	for trader := range 3 {
		for good := range 2 {
			bringMany(t, m, trader, trader, good, 300)
			want[[2]int{trader, good}] = 300
		}
	}
	number := uint32(1)
	next := func(below int) int {
		number = number*1664525 + 1013904223
		return int(number>>16)%(below+2) - 1
	}
	for range 5000 {
		m.Ship(next(3), next(4), next(4), next(2), next(60))
		if next(4) == 0 {
			expect(t, "P11: Tick", m.Tick(), api.OK)
		}
		expectPieces(t, m, want)
	}
}

// expectPieces wants of each trader and good so many pieces in all halls.
func expectPieces(t *testing.T, m *mercat.Market, want map[[2]int]int) {
	t.Helper()
	got := map[[2]int]int{}
	for trader := range 3 {
		a, _ := m.Account(trader)
		for _, s := range a.Goods {
			if s.Free < 0 || s.Held != 0 || s.Coming < 0 {
				t.Fatalf("P12: trader %d has %+v", trader, s)
			}
			got[[2]int{trader, s.Good}] += s.Free + s.Coming
		}
	}
	for key, pieces := range want {
		if got[key] != pieces {
			t.Fatalf("P12: trader %d has %d pieces of %d, want %d", key[0], got[key], key[1], pieces)
		}
	}
}
