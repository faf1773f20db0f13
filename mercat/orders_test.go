package mercat_test

import (
	"testing"

	"mercat/api"
)

func TestExamplesOfTheDocument(t *testing.T) {
	m := newMarket(t, 2, 1, 50)
	expect(t, "Pay", m.Pay(0, 10000), api.OK)
	expect(t, "Bring", m.Bring(1, 0, 0, 30), api.OK)
	expectPlace(t, m, sell(1, 100, 20, api.Wait), 1)
	expectAccount(t, m, 1, 0, api.Stock{Free: 10, Held: 20})
	expectPlace(t, m, buy(0, 110, 25, api.Wait), 2, api.Trade{Taker: 2, Maker: 1, With: 1, Price: 100, Qty: 20, Fee: 10})
	expectHeld(t, m, 0, 7440, 550, api.Stock{Free: 20})
	expectAccount(t, m, 1, 2000, api.Stock{Free: 10})
	expectRefused(t, m, sell(1, 105, 10, api.Whole), api.ErrShort)
	expectPlace(t, m, sell(1, 105, 10, api.Now), 3, api.Trade{Taker: 3, Maker: 2, With: 0, Price: 110, Qty: 5, Fee: 2})
	expectAccount(t, m, 0, 7440, api.Stock{Free: 25})
	expectAccount(t, m, 1, 2548, api.Stock{Free: 5})
	expectStat(t, m, 0, 0, api.Stat{Last: 110, Pieces: 25, Mean: 102})
	expectHouse(t, m, 12)
}

func TestPlaceNamesTheFirstError(t *testing.T) {
	m := stocked(t, 2, 2, 1000, 10, 100, 0)
	expectPlace(t, m, sell(1, 5, 10, api.Wait), 1)
	good := api.Order{Trader: 0, Hall: 1, Good: 1, Side: api.Sell, Price: 1, Qty: 1, How: api.Now}
	for _, n := range append([]int{4, 5, 1 << 20}, farOff...) {
		o := api.Order{Trader: n, Hall: n, Good: n, Side: n, Price: n, Qty: n, How: n}
		expectRefused(t, m, o, api.ErrTrader)
		o.Trader = 1
		expectRefused(t, m, o, api.ErrHall)
		o.Hall = 1
		expectRefused(t, m, o, api.ErrGood)
		o.Good = 1
		expectRefused(t, m, o, api.ErrNumber)
		o = good
		o.Side = n
		expectRefused(t, m, o, api.ErrNumber)
		o = good
		o.How = n
		expectRefused(t, m, o, api.ErrNumber)
	}
	for _, n := range append([]int{0, api.MaxPrice + 1}, farOff...) {
		o := good
		o.Price = n
		expectRefused(t, m, o, api.ErrNumber)
	}
	for _, n := range append([]int{0, api.MaxQty + 1}, farOff...) {
		o := good
		o.Qty = n
		expectRefused(t, m, o, api.ErrNumber)
	}
	expectRefused(t, m, api.Order{Trader: 2, Hall: 2, Good: 2}, api.ErrTrader)
	expectRefused(t, m, api.Order{Trader: 1, Hall: 2, Good: 2}, api.ErrHall)
	expectRefused(t, m, api.Order{Trader: 1, Hall: 1, Good: 2}, api.ErrGood)
	expectRefused(t, m, api.Order{Trader: 1, Hall: 1, Good: 1, Side: api.Sell + 1, Price: 1, Qty: 1}, api.ErrNumber)
	expectRefused(t, m, api.Order{Trader: 1, Hall: 1, Good: 1, How: api.Post + 1, Price: 1, Qty: 1}, api.ErrNumber)
	expectRefused(t, m, buy(0, 1000, 1, api.Post), api.ErrMoney)
	expectRefused(t, m, buy(0, 1000, 1, api.Whole), api.ErrMoney)
	expectRefused(t, m, sell(0, 1, 11, api.Whole), api.ErrStock)
	expectPlace(t, m, good, 2)
}

func TestBuyerNeedsThePriceAndTheFee(t *testing.T) {
	m := newMarket(t, 2, 1, 99, 0)
	expect(t, "Pay", m.Pay(0, 20197), api.OK) // 20000, and 198 for the fee, are one more
	for how := api.Wait; how <= api.Post; how++ {
		expectRefused(t, m, buy(0, 200, 100, how), api.ErrMoney)
	}
	free := buy(0, 20197, 1, api.Now)
	free.Hall = 1
	expectPlace(t, m, free, 1)
	free.Price++
	expectRefused(t, m, free, api.ErrMoney)
	expect(t, "Pay", m.Pay(0, 1), api.OK)
	expectPlace(t, m, buy(0, 200, 100, api.Wait), 2)
	expectHeld(t, m, 0, 198, 20000)
	expectRefused(t, m, buy(0, 199, 1, api.Now), api.ErrMoney)
	expectPlace(t, m, buy(0, 197, 1, api.Now), 3) // 197, and 1 for the fee
	expectRefused(t, m, buy(0, 198, 1, api.Now), api.ErrMoney)
	expectRefused(t, m, buy(1, 1, 1, api.Wait), api.ErrMoney)
}

func TestSellerNeedsThePiecesThere(t *testing.T) {
	m := newMarket(t, 2, 2, 0, 0)
	expect(t, "Bring", m.Bring(0, 0, 0, 10), api.OK)
	expect(t, "Bring", m.Bring(0, 1, 1, 100), api.OK)
	expect(t, "Bring", m.Bring(0, 1, 0, 100), api.OK)
	expect(t, "Bring", m.Bring(1, 0, 0, 100), api.OK)
	expect(t, "Ship", m.Ship(0, 1, 0, 0, 50), api.OK)
	for how := api.Wait; how <= api.Post; how++ {
		expectRefused(t, m, sell(0, 7, 11, how), api.ErrStock)
	}
	expectPlace(t, m, sell(0, 7, 10, api.Wait), 1)
	expectRefused(t, m, sell(0, 7, 1, api.Now), api.ErrStock)
	tickTimes(t, m, api.Way)
	expectRefused(t, m, sell(0, 7, 51, api.Now), api.ErrStock)
	expectPlace(t, m, sell(0, 7, 50, api.Wait), 2)
	expectAccount(t, m, 0, 0, api.Stock{Held: 60}, api.Stock{Hall: 1, Free: 50}, api.Stock{Hall: 1, Good: 1, Free: 100})
}

func TestWhatIsHeldIsNotFree(t *testing.T) {
	m := stocked(t, 1, 1, 100, 10, 0, 0)
	expectPlace(t, m, buy(0, 30, 2, api.Wait), 1)
	expectPlace(t, m, sell(0, 40, 6, api.Wait), 2)
	expectHeld(t, m, 0, 40, 60, api.Stock{Free: 4, Held: 6}, api.Stock{Hall: 1, Free: 10})
	expect(t, "P4: Draw of what is held", m.Draw(0, 41), api.ErrMoney)
	expect(t, "P5: Take of what is held", m.Take(0, 0, 0, 5), api.ErrStock)
	expect(t, "P11: Ship of what is held", m.Ship(0, 0, 1, 0, 5), api.ErrStock)
	expect(t, "P4: Draw of what is free", m.Draw(0, 40), api.OK)
	expect(t, "P5: Take of what is free", m.Take(0, 0, 0, 3), api.OK)
	expect(t, "P11: Ship of what is free", m.Ship(0, 0, 1, 0, 1), api.OK)
	expectHeld(t, m, 0, 0, 60, api.Stock{Held: 6}, api.Stock{Hall: 1, Free: 10, Coming: 1})
}

func TestLimitsOfAllCountWhatIsHeldAndTheHouse(t *testing.T) {
	m := newMarket(t, 2, 1, 100)
	expect(t, "Pay", m.Pay(0, 20000), api.OK)
	bringMany(t, m, 1, 0, 0, api.MaxStock)
	expectPlace(t, m, sell(1, 100, 150, api.Wait), 1)
	expectPlace(t, m, buy(0, 100, 100, api.Now), 2, api.Trade{Taker: 2, Maker: 1, With: 1, Price: 100, Qty: 100, Fee: 100})
	expectPlace(t, m, buy(0, 50, 10, api.Wait), 3)
	expectHeld(t, m, 0, 9400, 500, api.Stock{Free: 100})
	expectAccount(t, m, 1, 10000, api.Stock{Free: api.MaxStock - 150, Held: 50})
	expect(t, "P5: Bring of one too many", m.Bring(0, 0, 0, 1), api.ErrFull)
	expect(t, "P4: Pay of one too much", m.Pay(1, api.MaxMoney-19999), api.ErrFull)
	expect(t, "P4: Pay of the most", m.Pay(1, api.MaxMoney-20000), api.OK)
	expect(t, "P4: Pay of one more", m.Pay(0, 1), api.ErrFull)
}

func TestBuyerTakesTheLeastPriceThenTheFirst(t *testing.T) {
	m := stocked(t, 4, 1, 100000, 100, 100)
	expectPlace(t, m, sell(0, 12, 10, api.Wait), 1)
	expectPlace(t, m, sell(1, 10, 10, api.Wait), 2)
	expectPlace(t, m, sell(2, 11, 10, api.Wait), 3)
	expectPlace(t, m, sell(0, 10, 10, api.Post), 4)
	expectPlace(t, m, sell(2, 10, 10, api.Wait), 5)
	expectPlace(t, m, buy(3, 11, 35, api.Wait), 6,
		api.Trade{Taker: 6, Maker: 2, With: 1, Price: 10, Qty: 10, Fee: 1},
		api.Trade{Taker: 6, Maker: 4, With: 0, Price: 10, Qty: 10, Fee: 1},
		api.Trade{Taker: 6, Maker: 5, With: 2, Price: 10, Qty: 10, Fee: 1},
		api.Trade{Taker: 6, Maker: 3, With: 2, Price: 11, Qty: 5, Fee: 0})
	expectBook(t, m, 0, 0, nil, []api.Level{{Price: 11, Qty: 5, Orders: 1}, {Price: 12, Qty: 10, Orders: 1}})
	expectAccount(t, m, 3, 100000-358, api.Stock{Free: 135})
	expectAccount(t, m, 2, 100155, api.Stock{Free: 80, Held: 5})
	expectPlace(t, m, buy(3, 11, 7, api.Wait), 7, api.Trade{Taker: 7, Maker: 3, With: 2, Price: 11, Qty: 5, Fee: 0})
	expectHeld(t, m, 3, 100000-358-55-22, 22, api.Stock{Free: 140})
}

func TestSellerTakesTheGreatestPriceThenTheFirst(t *testing.T) {
	m := stocked(t, 4, 1, 100000, 100, 100)
	expectPlace(t, m, buy(0, 100, 10, api.Wait), 1)
	expectPlace(t, m, buy(1, 102, 10, api.Wait), 2)
	expectPlace(t, m, buy(2, 101, 10, api.Wait), 3)
	expectPlace(t, m, buy(0, 102, 10, api.Post), 4)
	expectPlace(t, m, buy(2, 102, 10, api.Wait), 5)
	expectPlace(t, m, sell(3, 101, 35, api.Wait), 6,
		api.Trade{Taker: 6, Maker: 2, With: 1, Price: 102, Qty: 10, Fee: 10},
		api.Trade{Taker: 6, Maker: 4, With: 0, Price: 102, Qty: 10, Fee: 10},
		api.Trade{Taker: 6, Maker: 5, With: 2, Price: 102, Qty: 10, Fee: 10},
		api.Trade{Taker: 6, Maker: 3, With: 2, Price: 101, Qty: 5, Fee: 5})
	expectBook(t, m, 0, 0, []api.Level{{Price: 101, Qty: 5, Orders: 1}, {Price: 100, Qty: 10, Orders: 1}}, nil)
	expectAccount(t, m, 3, 100000+3565-35, api.Stock{Free: 65})
	expectHeld(t, m, 2, 100000-1020-1010, 505, api.Stock{Free: 115})
	expectPlace(t, m, sell(3, 101, 7, api.Wait), 7, api.Trade{Taker: 7, Maker: 3, With: 2, Price: 101, Qty: 5, Fee: 5})
	expectAccount(t, m, 3, 100000+3565-35+505-5, api.Stock{Free: 58, Held: 2})
	expectHouse(t, m, 40)
}

func TestWhatIsLeftKeepsItsPlace(t *testing.T) {
	m := stocked(t, 3, 1, 1000, 100, 0)
	expectPlace(t, m, sell(0, 5, 10, api.Wait), 1)
	expectPlace(t, m, sell(1, 5, 10, api.Wait), 2)
	expectPlace(t, m, buy(2, 5, 9, api.Now), 3, api.Trade{Taker: 3, Maker: 1, With: 0, Price: 5, Qty: 9})
	expectPlace(t, m, buy(2, 5, 2, api.Now), 4,
		api.Trade{Taker: 4, Maker: 1, With: 0, Price: 5, Qty: 1}, api.Trade{Taker: 4, Maker: 2, With: 1, Price: 5, Qty: 1})
	expectOrders(t, m, 0)
	expectBook(t, m, 0, 0, nil, []api.Level{{Price: 5, Qty: 9, Orders: 1}})
}

func TestFeesAreOfTheHallAndRoundedDownEachTime(t *testing.T) {
	m := stocked(t, 2, 1, 1000000, 1000, 100, 0, 33)
	for hall, fees := range [][2]int{{1, 0}, {0, 0}, {0, 0}} {
		for i, amount := range []int{199, 99} {
			o := sell(1, amount, 1, api.Wait)
			o.Hall = hall
			number, _, e := m.Place(o)
			expect(t, "Place", e, api.OK)
			o = buy(0, amount, 1, api.Whole)
			o.Hall = hall
			expectPlace(t, m, o, number+1, api.Trade{Taker: number + 1, Maker: number, With: 1, Price: amount, Qty: 1, Fee: fees[i]})
		}
	}
	expectHouse(t, m, 1)
	o := buy(0, 606, 5, api.Wait)
	o.Hall = 2
	expectPlace(t, m, o, 13)
	o = sell(1, 1, 7, api.Now)
	o.Hall = 2
	expectPlace(t, m, o, 14, api.Trade{Taker: 14, Maker: 13, With: 0, Price: 606, Qty: 5, Fee: 9}) // 9.999
	expectHouse(t, m, 10)
	a, _ := m.Account(0)
	b, _ := m.Account(1)
	if a.Free != 1000000-3*298-1-3030 || b.Free != 1000000+3*298+3030-9 || a.Held != 0 || b.Held != 0 {
		t.Errorf("P7: after the trades %+v and %+v", a, b)
	}
}

func TestPostWaitsOrIsRefused(t *testing.T) {
	m := stocked(t, 3, 1, 10000, 100, 10)
	expectPlace(t, m, sell(0, 50, 1, api.Wait), 1)
	expectPlace(t, m, buy(1, 40, 1, api.Wait), 2)
	expectRefused(t, m, buy(2, 50, 1, api.Post), api.ErrCross)
	expectRefused(t, m, buy(2, 51, 100, api.Post), api.ErrCross)
	expectRefused(t, m, sell(2, 40, 1, api.Post), api.ErrCross)
	expectRefused(t, m, sell(2, 39, 100, api.Post), api.ErrCross)
	expectPlace(t, m, buy(2, 49, 3, api.Post), 3)
	expectPlace(t, m, sell(2, 50, 4, api.Post), 4)
	expectPlace(t, m, sell(1, 50, 4, api.Now), 5)
	expectBook(t, m, 0, 0, []api.Level{{Price: 49, Qty: 3, Orders: 1}, {Price: 40, Qty: 1, Orders: 1}}, []api.Level{{Price: 50, Qty: 5, Orders: 2}})
}

func TestWholeIsDoneAtOnceOrNot(t *testing.T) {
	m := stocked(t, 4, 1, 10000, 100, 0)
	expectRefused(t, m, buy(3, 50, 1, api.Whole), api.ErrShort)
	expectPlace(t, m, sell(0, 50, 5, api.Wait), 1)
	expectPlace(t, m, sell(1, 51, 5, api.Wait), 2)
	expectPlace(t, m, sell(2, 52, 5, api.Wait), 3)
	expectRefused(t, m, buy(3, 49, 1, api.Whole), api.ErrShort)
	expectRefused(t, m, buy(3, 51, 11, api.Whole), api.ErrShort)
	expectRefused(t, m, buy(2, 52, 11, api.Whole), api.ErrShort) // its own 5 do not count
	expectPlace(t, m, buy(3, 51, 10, api.Whole), 4,
		api.Trade{Taker: 4, Maker: 1, With: 0, Price: 50, Qty: 5}, api.Trade{Taker: 4, Maker: 2, With: 1, Price: 51, Qty: 5})
	expectRefused(t, m, sell(3, 1, 1, api.Whole), api.ErrShort)
	expectPlace(t, m, buy(0, 30, 5, api.Wait), 5)
	expectRefused(t, m, sell(3, 30, 6, api.Whole), api.ErrShort)
	expectRefused(t, m, sell(3, 31, 1, api.Whole), api.ErrShort)
	expectPlace(t, m, sell(3, 30, 4, api.Whole), 6, api.Trade{Taker: 6, Maker: 5, With: 0, Price: 30, Qty: 4})
	expectOrders(t, m, 3)
}

func TestNowIsDroppedWhereNothingFits(t *testing.T) {
	m := stocked(t, 2, 1, 10000, 100, 100)
	expectPlace(t, m, buy(0, 5, 10, api.Now), 1)
	expectPlace(t, m, sell(0, 5, 10, api.Now), 2)
	expectAccount(t, m, 0, 10000, api.Stock{Free: 100})
	expectPlace(t, m, sell(0, 5, 10, api.Wait), 3)
	expectPlace(t, m, buy(1, 9, 100, api.Now), 4, api.Trade{Taker: 4, Maker: 3, With: 0, Price: 5, Qty: 10})
	expectAccount(t, m, 1, 9950, api.Stock{Free: 110})
	expectBook(t, m, 0, 0, nil, nil)
}

func TestOwnOrdersAreTakenBackWhereTheyAreMet(t *testing.T) {
	m := stocked(t, 3, 1, 1000, 100, 0)
	expectPlace(t, m, sell(1, 5, 10, api.Wait), 1)
	expectPlace(t, m, sell(1, 5, 20, api.Wait), 2)
	expectPlace(t, m, sell(0, 6, 3, api.Wait), 3)
	expectPlace(t, m, sell(1, 6, 30, api.Wait), 4)
	expectPlace(t, m, sell(2, 7, 3, api.Wait), 5)
	expectPlace(t, m, sell(1, 7, 40, api.Wait), 6)
	expectAccount(t, m, 1, 1000, api.Stock{Held: 100})
	expectPlace(t, m, buy(1, 9, 6, api.Wait), 7,
		api.Trade{Taker: 7, Maker: 3, With: 0, Price: 6, Qty: 3}, api.Trade{Taker: 7, Maker: 5, With: 2, Price: 7, Qty: 3})
	expectAccount(t, m, 1, 961, api.Stock{Free: 66, Held: 40})
	expectOrders(t, m, 1, api.Order{Id: 6, Trader: 1, Side: api.Sell, Price: 7, Qty: 40})
	expectPlace(t, m, buy(1, 6, 1, api.Wait), 8)
	expectPlace(t, m, buy(1, 7, 2, api.Post), 9)
	expectHeld(t, m, 1, 961-20, 20, api.Stock{Free: 106})
	expectPlace(t, m, buy(0, 6, 4, api.Wait), 10)
	expectPlace(t, m, sell(1, 6, 5, api.Wait), 11, api.Trade{Taker: 11, Maker: 10, With: 0, Price: 6, Qty: 4})
	expectAccount(t, m, 1, 961+24, api.Stock{Free: 101, Held: 1})
	expectBook(t, m, 0, 0, nil, []api.Level{{Price: 6, Qty: 1, Orders: 1}})
	expectPlace(t, m, buy(1, 6, 1, api.Now), 12)
	expectAccount(t, m, 1, 961+24, api.Stock{Free: 102})
}

func TestOwnOrdersAreNotMetByPostAndWhole(t *testing.T) {
	m := stocked(t, 2, 1, 1000, 100, 0)
	expectPlace(t, m, sell(0, 5, 10, api.Wait), 1)
	expectRefused(t, m, buy(0, 5, 10, api.Whole), api.ErrShort)
	expectPlace(t, m, sell(1, 6, 10, api.Wait), 2)
	expectRefused(t, m, buy(0, 6, 1, api.Post), api.ErrCross)
	expectPlace(t, m, buy(0, 6, 10, api.Whole), 3, api.Trade{Taker: 3, Maker: 2, With: 1, Price: 6, Qty: 10})
	expectAccount(t, m, 0, 940, api.Stock{Free: 110})
	expectPlace(t, m, buy(0, 6, 1, api.Wait), 4)
	expectPlace(t, m, sell(0, 6, 1, api.Post), 5)
	expectAccount(t, m, 0, 940, api.Stock{Free: 109, Held: 1})
}

func TestAsManyWaitAsMay(t *testing.T) {
	m := stocked(t, 4, 2, 100000, 1000, 0, 0)
	for i := range api.MaxOrders {
		o := sell(i%4, 100, 1, api.Wait)
		o.Hall, o.Good = i%2, i/2%2
		if i%3 == 0 {
			o.Side, o.Price = api.Buy, 50
		}
		expectPlace(t, m, o, i+1)
	}
	for how := api.Wait; how <= api.Post; how++ {
		expectRefused(t, m, buy(0, 100, 1, how), api.ErrFull)
		expectRefused(t, m, sell(0, 50, 1, how), api.ErrFull)
	}
	expectRefused(t, m, buy(0, api.MaxPrice, api.MaxQty, api.Wait), api.ErrFull)
	expectRefused(t, m, sell(0, 1, api.MaxQty, api.Wait), api.ErrFull)
	expectRefused(t, m, sell(0, 1, 0, api.Wait), api.ErrNumber)
}

func TestARoomThatIsLeftCanBeFilled(t *testing.T) {
	m := stocked(t, 2, 1, 100000, 1000, 0)
	for i := range api.MaxOrders - 1 {
		expectPlace(t, m, sell(0, 100, 2, api.Wait), i+1)
	}
	expectPlace(t, m, buy(1, 100, 1, api.Now), 60, api.Trade{Taker: 60, Maker: 1, With: 0, Price: 100, Qty: 1})
	expectPlace(t, m, buy(1, 100, 2, api.Now), 61,
		api.Trade{Taker: 61, Maker: 1, With: 0, Price: 100, Qty: 1}, api.Trade{Taker: 61, Maker: 2, With: 0, Price: 100, Qty: 1})
	expectPlace(t, m, sell(1, 101, 1, api.Wait), 62)
	expectPlace(t, m, sell(1, 102, 1, api.Wait), 63)
	expectRefused(t, m, buy(0, 101, 1, api.Wait), api.ErrFull)
}

func TestHallsAndGoodsStandApart(t *testing.T) {
	m := stocked(t, 2, 2, 10000, 10, 0, 0)
	expectPlace(t, m, sell(0, 5, 1, api.Wait), 1)
	number := 1
	for _, at := range [][2]int{{0, 1}, {1, 0}, {1, 1}} {
		o := buy(1, 9, 1, api.Post)
		o.Hall, o.Good = at[0], at[1]
		number++
		expectPlace(t, m, o, number)
		expectBook(t, m, at[0], at[1], []api.Level{{Price: 9, Qty: 1, Orders: 1}}, nil)
	}
	o := sell(0, 9, 2, api.Now)
	o.Hall, o.Good = 1, 0
	expectPlace(t, m, o, 5, api.Trade{Taker: 5, Maker: 3, With: 1, Price: 9, Qty: 1})
	expectHeld(t, m, 1, 10000-27, 18, api.Stock{Free: 10}, api.Stock{Good: 1, Free: 10}, api.Stock{Hall: 1, Free: 11}, api.Stock{Hall: 1, Good: 1, Free: 10})
	expectAccount(t, m, 0, 10009, api.Stock{Free: 9, Held: 1}, api.Stock{Good: 1, Free: 10}, api.Stock{Hall: 1, Free: 9}, api.Stock{Hall: 1, Good: 1, Free: 10})
	expectStat(t, m, 1, 0, api.Stat{Last: 9, Pieces: 1, Mean: 9})
	for _, at := range [][2]int{{0, 0}, {0, 1}, {1, 1}} {
		expectStat(t, m, at[0], at[1], api.Stat{})
	}
}

func TestTheGreatestOrders(t *testing.T) {
	m := newMarket(t, 2, 1, api.MaxRate)
	expect(t, "Pay", m.Pay(0, api.MaxMoney), api.OK)
	bringMany(t, m, 1, 0, 0, api.MaxStock)
	trade := api.Trade{Taker: 2, Maker: 1, With: 1, Price: api.MaxPrice, Qty: api.MaxQty, Fee: 10000000}
	for range api.MaxStock / api.MaxQty {
		expectPlace(t, m, sell(1, api.MaxPrice, api.MaxQty, api.Wait), trade.Maker)
		expectPlace(t, m, buy(0, api.MaxPrice, api.MaxQty, api.Whole), trade.Taker, trade)
		trade.Maker, trade.Taker = trade.Maker+2, trade.Taker+2
	}
	expectStat(t, m, 0, 0, api.Stat{Last: api.MaxPrice, Pieces: api.MaxStock, Mean: api.MaxPrice})
	expectHouse(t, m, 1000000000)
	expectAccount(t, m, 0, api.MaxMoney-101000000000, api.Stock{Free: api.MaxStock})
	expectAccount(t, m, 1, 100000000000)
}

func TestTheLeastOrders(t *testing.T) {
	m := newMarket(t, 2, 1, api.MaxRate)
	expect(t, "Pay", m.Pay(0, 1), api.OK)
	expect(t, "Bring", m.Bring(1, 0, 0, 1), api.OK)
	expectPlace(t, m, buy(0, 1, 1, api.Wait), 1)
	expectPlace(t, m, sell(1, 1, 1, api.Wait), 2, api.Trade{Taker: 2, Maker: 1, With: 0, Price: 1, Qty: 1})
	expectAccount(t, m, 0, 0, api.Stock{Free: 1})
	expectAccount(t, m, 1, 1)
	expectHouse(t, m, 0)
}

func TestTradesAreTheCallers(t *testing.T) {
	m := stocked(t, 2, 1, 1000, 100, 100)
	for i := range 5 {
		expectPlace(t, m, sell(0, 10+i, 1, api.Wait), i+1)
	}
	_, trades, _ := m.Place(buy(1, 12, 3, api.Now))
	before := picture(m)
	room := trades[:cap(trades)]
	for i := range room {
		room[i] = api.Trade{Taker: -1, Maker: -1, Price: -1, Qty: -1}
	}
	if after := picture(m); after != before {
		t.Errorf("P2: writing into trades changed %s to %s", before, after)
	}
	expectPlace(t, m, buy(1, 13, 1, api.Now), 7, api.Trade{Taker: 7, Maker: 4, With: 0, Price: 13, Qty: 1})
}
