package mercat_test

import (
	"slices"
	"testing"

	"mercat/api"
	"mercat/mercat"
)

func expectChange(t *testing.T, m *mercat.Market, trader, id, price, qty, number int, trades ...api.Trade) {
	t.Helper()
	got, told, e := m.Change(trader, id, price, qty)
	if got != number || e != api.OK || !slices.Equal(told, trades) {
		t.Errorf("P9: Change(%d, %d, %d, %d) = %d, %+v, %d, want %d, %+v", trader, id, price, qty, got, told, e, number, trades)
	}
}

// expectUnchanged wants a change to be refused, and nothing to be changed by it.
func expectUnchanged(t *testing.T, m *mercat.Market, trader, id, price, qty int, want api.Errno) {
	t.Helper()
	before := picture(m)
	if number, trades, e := m.Change(trader, id, price, qty); number != 0 || len(trades) != 0 || e != want {
		t.Errorf("P9: Change(%d, %d, %d, %d) = %d, %+v, %d, want %d", trader, id, price, qty, number, trades, e, want)
	}
	if after := picture(m); after != before {
		t.Errorf("P9: Change(%d, %d, %d, %d) was refused and changed %s to %s", trader, id, price, qty, before, after)
	}
}

// expectKept wants an order not to be cancelled, and nothing to be changed.
func expectKept(t *testing.T, m *mercat.Market, trader, id int, want api.Errno) {
	t.Helper()
	before := picture(m)
	if e := m.Cancel(trader, id); e != want {
		t.Errorf("P8: Cancel(%d, %d) = %d, want %d", trader, id, e, want)
	}
	if after := picture(m); after != before {
		t.Errorf("P8: Cancel(%d, %d) was refused and changed %s to %s", trader, id, before, after)
	}
}

func TestCancelFreesWhatIsHeld(t *testing.T) {
	m := stocked(t, 2, 2, 1000, 50, 100, 0)
	expectPlace(t, m, api.Order{Trader: 0, Hall: 1, Good: 1, Side: api.Buy, Price: 7, Qty: 20, How: api.Post}, 1)
	expectPlace(t, m, sell(0, 9, 30, api.Wait), 2)
	expectPlace(t, m, buy(0, 3, 5, api.Wait), 3)
	stock := []api.Stock{{Free: 20, Held: 30}, {Good: 1, Free: 50}, {Hall: 1, Free: 50}, {Hall: 1, Good: 1, Free: 50}}
	expectHeld(t, m, 0, 845, 155, stock...)
	expect(t, "P8: Cancel", m.Cancel(0, 1), api.OK)
	expectHeld(t, m, 0, 985, 15, stock...)
	expectBook(t, m, 1, 1, nil, nil)
	expectBook(t, m, 0, 0, []api.Level{{Price: 3, Qty: 5, Orders: 1}}, []api.Level{{Price: 9, Qty: 30, Orders: 1}})
	expect(t, "P8: Cancel", m.Cancel(0, 2), api.OK)
	stock[0] = api.Stock{Free: 50}
	expectHeld(t, m, 0, 985, 15, stock...)
	expectOrders(t, m, 0, api.Order{Id: 3, Price: 3, Qty: 5})
	expect(t, "P8: Cancel", m.Cancel(0, 3), api.OK)
	expectAccount(t, m, 0, 1000, stock...)
	expect(t, "P8: Draw of all that is free again", m.Draw(0, 1000), api.OK)
	expect(t, "P8: Take of all that is free again", m.Take(0, 0, 0, 50), api.OK)
	expectPlace(t, m, buy(1, 9, 1, api.Wait), 4)
	expectHouse(t, m, 0)
}

func TestCancelFreesWhatIsLeft(t *testing.T) {
	m := stocked(t, 3, 1, 1000, 50, 0)
	expectPlace(t, m, buy(0, 10, 20, api.Wait), 1)
	expectPlace(t, m, sell(1, 10, 13, api.Wait), 2, api.Trade{Taker: 2, Maker: 1, With: 0, Price: 10, Qty: 13})
	expectPlace(t, m, sell(2, 11, 20, api.Wait), 3)
	expectPlace(t, m, buy(1, 11, 4, api.Wait), 4, api.Trade{Taker: 4, Maker: 3, With: 2, Price: 11, Qty: 4})
	expectHeld(t, m, 0, 800, 70, api.Stock{Free: 63})
	expectAccount(t, m, 2, 1044, api.Stock{Free: 30, Held: 16})
	expect(t, "P8: Cancel", m.Cancel(0, 1), api.OK)
	expect(t, "P8: Cancel", m.Cancel(2, 3), api.OK)
	expectAccount(t, m, 0, 870, api.Stock{Free: 63})
	expectAccount(t, m, 2, 1044, api.Stock{Free: 46})
	expectBook(t, m, 0, 0, nil, nil)
}

func TestCancelOfNoneIsRefused(t *testing.T) {
	m := stocked(t, 3, 1, 1000, 50, 0)
	expectKept(t, m, 0, 1, api.ErrOrder)
	expectPlace(t, m, buy(0, 10, 2, api.Wait), 1)
	expectPlace(t, m, sell(1, 12, 2, api.Wait), 2)
	expectPlace(t, m, sell(1, 11, 1, api.Now), 3)                                                             // dropped
	expectPlace(t, m, sell(2, 11, 1, api.Wait), 4)                                                            // met by the next one
	expectPlace(t, m, buy(0, 11, 1, api.Whole), 5, api.Trade{Taker: 5, Maker: 4, With: 2, Price: 11, Qty: 1}) // done
	expectPlace(t, m, sell(0, 20, 2, api.Wait), 6)                                                            // cancelled below
	expectPlace(t, m, buy(2, 5, 2, api.Wait), 7)
	expectPlace(t, m, sell(2, 5, 1, api.Now), 8, api.Trade{Taker: 8, Maker: 1, With: 0, Price: 10, Qty: 1})
	expect(t, "P8: Cancel", m.Cancel(0, 6), api.OK)
	for trader := range 3 {
		for _, id := range append([]int{0, 3, 4, 5, 6, 8, 9, 10}, farOff...) {
			expectKept(t, m, trader, id, api.ErrOrder)
			expectUnchanged(t, m, trader, id, 1, 1, api.ErrOrder)
			expectUnchanged(t, m, trader, id, 0, 0, api.ErrOrder)
		}
	}
	for id, owner := range map[int]int{1: 0, 2: 1, 7: 2} {
		for trader := range 3 {
			if trader != owner {
				expectKept(t, m, trader, id, api.ErrOrder)
				expectUnchanged(t, m, trader, id, 1, 1, api.ErrOrder)
			}
		}
	}
	for _, trader := range append([]int{3, api.MaxTraders}, farOff...) {
		for _, id := range []int{0, 1, 2, 7, trader} {
			expectKept(t, m, trader, id, api.ErrTrader)
			expectUnchanged(t, m, trader, id, 0, 0, api.ErrTrader)
		}
	}
	expect(t, "P8: Cancel", m.Cancel(0, 1), api.OK)
	expectKept(t, m, 0, 1, api.ErrOrder)
	expect(t, "P8: Cancel", m.Cancel(1, 2), api.OK)
	expect(t, "P8: Cancel", m.Cancel(2, 7), api.OK)
	expectBook(t, m, 0, 0, nil, nil)
}

func TestOneTakenBackByItsTraderIsGone(t *testing.T) {
	m := stocked(t, 2, 1, 1000, 50, 0)
	expectPlace(t, m, sell(0, 10, 2, api.Wait), 1)
	expectPlace(t, m, buy(0, 10, 2, api.Now), 2)
	expectKept(t, m, 0, 1, api.ErrOrder)
	expectUnchanged(t, m, 0, 1, 10, 1, api.ErrOrder)
}

func TestCancelledOnesAreMetNoMore(t *testing.T) {
	for gone := 1; gone <= 5; gone++ {
		m := stocked(t, 2, 1, 1000, 50, 0)
		for i := range 5 {
			expectPlace(t, m, sell(0, 5, i+1, api.Wait), i+1)
		}
		expect(t, "P8: Cancel", m.Cancel(0, gone), api.OK)
		var trades []api.Trade
		for id := 1; id <= 5; id++ {
			if id != gone {
				trades = append(trades, api.Trade{Taker: 6, Maker: id, With: 0, Price: 5, Qty: id})
			}
		}
		expectPlace(t, m, buy(1, 5, 50, api.Now), 6, trades...)
		expectAccount(t, m, 0, 1000+5*(15-gone), api.Stock{Free: 35 + gone})
	}
}

func TestCancelMakesRoom(t *testing.T) {
	m := stocked(t, 2, 1, 1000, 100, 0)
	for i := range api.MaxOrders {
		expectPlace(t, m, sell(0, 5, 1, api.Wait), i+1)
	}
	expectRefused(t, m, sell(1, 5, 1, api.Wait), api.ErrFull)
	expect(t, "P8: Cancel", m.Cancel(0, 17), api.OK)
	expectPlace(t, m, sell(1, 5, 1, api.Wait), api.MaxOrders+1)
	expectRefused(t, m, sell(1, 5, 1, api.Wait), api.ErrFull)
}

func TestChangeNamesTheFirstError(t *testing.T) {
	m := stocked(t, 2, 1, 1000, 50, 0)
	expectPlace(t, m, sell(0, 5, 10, api.Wait), 1)
	expectPlace(t, m, buy(0, 4, 10, api.Wait), 2)
	for id := 1; id <= 2; id++ {
		for _, n := range append([]int{0, api.MaxPrice + 1}, farOff...) {
			expectUnchanged(t, m, 0, id, n, 10, api.ErrNumber)
			expectUnchanged(t, m, 0, id, n, 10000, api.ErrNumber)
			expectUnchanged(t, m, 0, id, n, n, api.ErrNumber)
		}
		for _, n := range append([]int{0, api.MaxQty + 1}, farOff...) {
			expectUnchanged(t, m, 0, id, 5, n, api.ErrNumber)
			expectUnchanged(t, m, 0, id, 4, n, api.ErrNumber)
		}
	}
	expectUnchanged(t, m, 0, 1, 5, api.MaxQty, api.ErrStock)
	expectUnchanged(t, m, 0, 1, api.MaxPrice, api.MaxQty, api.ErrStock)
	expectUnchanged(t, m, 0, 2, 4, api.MaxQty, api.ErrMoney)
	expectUnchanged(t, m, 0, 2, api.MaxPrice, api.MaxQty, api.ErrMoney)
}

func TestChangeToLessKeepsThePlace(t *testing.T) {
	m := stocked(t, 3, 1, 1000, 50, 100)
	expectPlace(t, m, sell(0, 50, 10, api.Post), 1)
	expectPlace(t, m, sell(1, 50, 10, api.Wait), 2)
	expectPlace(t, m, buy(0, 20, 10, api.Wait), 3)
	expectPlace(t, m, buy(1, 20, 10, api.Post), 4)
	expectChange(t, m, 0, 1, 50, 10, 1)
	expectHeld(t, m, 0, 800, 200, api.Stock{Free: 40, Held: 10})
	expectChange(t, m, 0, 1, 50, 9, 1)
	expectChange(t, m, 0, 3, 20, 9, 3)
	expectHeld(t, m, 0, 820, 180, api.Stock{Free: 41, Held: 9})
	expectChange(t, m, 0, 1, 50, 1, 1)
	expectChange(t, m, 0, 3, 20, 1, 3)
	expectHeld(t, m, 0, 980, 20, api.Stock{Free: 49, Held: 1})
	expectChange(t, m, 1, 4, 20, 3, 4)
	expectOrders(t, m, 0, api.Order{Id: 1, Side: api.Sell, Price: 50, Qty: 1, How: api.Post}, api.Order{Id: 3, Price: 20, Qty: 1})
	expectOrders(t, m, 1, api.Order{Id: 2, Trader: 1, Side: api.Sell, Price: 50, Qty: 10}, api.Order{Id: 4, Trader: 1, Price: 20, Qty: 3, How: api.Post})
	expectBook(t, m, 0, 0, []api.Level{{Price: 20, Qty: 4, Orders: 2}}, []api.Level{{Price: 50, Qty: 11, Orders: 2}})
	expectPlace(t, m, buy(2, 50, 2, api.Now), 5,
		api.Trade{Taker: 5, Maker: 1, With: 0, Price: 50, Qty: 1}, api.Trade{Taker: 5, Maker: 2, With: 1, Price: 50, Qty: 1})
	expectPlace(t, m, sell(2, 20, 2, api.Now), 6,
		api.Trade{Taker: 6, Maker: 3, With: 0, Price: 20, Qty: 1}, api.Trade{Taker: 6, Maker: 4, With: 1, Price: 20, Qty: 1})
	expectHouse(t, m, 0)
}

// Its fee was reckoned when it came, and is not asked for again where it stays.
func TestChangeToLessNeedsNothingFree(t *testing.T) {
	m := stocked(t, 1, 1, 10100, 10, 100)
	expectPlace(t, m, buy(0, 100, 100, api.Wait), 1)
	expectPlace(t, m, sell(0, 200, 10, api.Wait), 2)
	expect(t, "Draw", m.Draw(0, 100), api.OK)
	expectChange(t, m, 0, 1, 100, 100, 1)
	expectChange(t, m, 0, 2, 200, 10, 2)
	expectHeld(t, m, 0, 0, 10000, api.Stock{Held: 10})
	expectChange(t, m, 0, 1, 100, 99, 1)
	expectChange(t, m, 0, 2, 200, 9, 2)
	expectHeld(t, m, 0, 100, 9900, api.Stock{Free: 1, Held: 9})
}

func TestChangeToMoreOrAnotherPriceLosesThePlace(t *testing.T) {
	for _, side := range []int{api.Buy, api.Sell} {
		m := stocked(t, 3, 1, 10000, 500, 0)
		for i := range 3 {
			expectPlace(t, m, api.Order{Trader: i % 2, Side: side, Price: 20, Qty: 5, How: api.Post}, i+1)
		}
		expectChange(t, m, 0, 1, 20, 6, 4)
		expectChange(t, m, 1, 2, 21, 5, 5)
		expectChange(t, m, 1, 5, 20, 4, 6)
		expectUnchanged(t, m, 0, 1, 20, 1, api.ErrOrder)
		expectUnchanged(t, m, 1, 2, 20, 1, api.ErrOrder)
		expectUnchanged(t, m, 1, 5, 20, 1, api.ErrOrder)
		expectOrders(t, m, 0, api.Order{Id: 3, Side: side, Price: 20, Qty: 5, How: api.Post}, api.Order{Id: 4, Side: side, Price: 20, Qty: 6})
		expectOrders(t, m, 1, api.Order{Id: 6, Trader: 1, Side: side, Price: 20, Qty: 4})
		expectPlace(t, m, api.Order{Trader: 2, Side: 1 - side, Price: 20, Qty: 15, How: api.Whole}, 7,
			api.Trade{Taker: 7, Maker: 3, With: 0, Price: 20, Qty: 5},
			api.Trade{Taker: 7, Maker: 4, With: 0, Price: 20, Qty: 6},
			api.Trade{Taker: 7, Maker: 6, With: 1, Price: 20, Qty: 4})
	}
}

func TestChangeGoesByWhatIsLeft(t *testing.T) {
	m := stocked(t, 2, 1, 1000, 50, 0)
	expectPlace(t, m, sell(0, 10, 20, api.Wait), 1)
	expectPlace(t, m, buy(1, 10, 12, api.Now), 2, api.Trade{Taker: 2, Maker: 1, With: 0, Price: 10, Qty: 12})
	expectUnchanged(t, m, 0, 1, 10, 39, api.ErrStock)
	expectChange(t, m, 0, 1, 10, 8, 1)
	expectChange(t, m, 0, 1, 10, 9, 3) // less than it was placed with, more than is left
	expectAccount(t, m, 0, 1120, api.Stock{Free: 29, Held: 9})
	expectChange(t, m, 0, 3, 10, 38, 4)
	expectAccount(t, m, 0, 1120, api.Stock{Held: 38})
}

func TestChangeMayUseWhatIsHeldForIt(t *testing.T) {
	m := stocked(t, 1, 2, 10100, 10, 100, 100)
	expectPlace(t, m, buy(0, 100, 100, api.Wait), 1)
	expect(t, "Draw", m.Draw(0, 100), api.OK)
	expectUnchanged(t, m, 0, 1, 101, 99, api.ErrMoney) // 9999 and 99
	expectUnchanged(t, m, 0, 1, 100, 101, api.ErrMoney)
	expectUnchanged(t, m, 0, 1, 9902, 1, api.ErrMoney) // 9902 and 99
	expectChange(t, m, 0, 1, 9901, 1, 2)               // 9901 and 99
	expectChange(t, m, 0, 2, 1, 9901, 3)
	expectUnchanged(t, m, 0, 3, 1, 9902, api.ErrMoney)
	o := sell(0, 20, 10, api.Wait)
	o.Hall, o.Good = 1, 1
	expectPlace(t, m, o, 4)
	expectUnchanged(t, m, 0, 4, 20, 11, api.ErrStock)
	expectUnchanged(t, m, 0, 4, 21, 11, api.ErrStock)
	expectChange(t, m, 0, 4, 21, 10, 5)
	expectHeld(t, m, 0, 99, 9901, api.Stock{Free: 10}, api.Stock{Good: 1, Free: 10}, api.Stock{Hall: 1, Free: 10}, api.Stock{Hall: 1, Good: 1, Held: 10})
	expectOrders(t, m, 0, api.Order{Id: 3, Price: 1, Qty: 9901}, api.Order{Id: 5, Hall: 1, Good: 1, Side: api.Sell, Price: 21, Qty: 10})
}

func TestChangeMayNotUseWhatIsHeldForOthers(t *testing.T) {
	m := stocked(t, 1, 1, 100, 10, 0)
	expectPlace(t, m, buy(0, 5, 10, api.Wait), 1)
	expectPlace(t, m, buy(0, 5, 4, api.Wait), 2)
	expectUnchanged(t, m, 0, 1, 5, 17, api.ErrMoney)
	expectChange(t, m, 0, 1, 5, 16, 3)
	expectPlace(t, m, sell(0, 7, 6, api.Wait), 4)
	expectPlace(t, m, sell(0, 7, 3, api.Wait), 5)
	expectUnchanged(t, m, 0, 5, 7, 5, api.ErrStock)
	expectChange(t, m, 0, 5, 7, 4, 6)
	expectHeld(t, m, 0, 0, 100, api.Stock{Held: 10})
}

func TestRefusedChangeKeepsPlaceAndNumber(t *testing.T) {
	for _, side := range []int{api.Buy, api.Sell} {
		for id := 1; id <= 3; id++ {
			m := stocked(t, 2, 1, 100, 10, 0)
			for i := range 3 {
				expectPlace(t, m, api.Order{Side: side, Price: 10, Qty: i + 1, How: api.Post}, i+1)
			}
			want := api.ErrMoney
			if side == api.Sell {
				want = api.ErrStock
			}
			expectUnchanged(t, m, 0, id, 10, 11, want)
			expectUnchanged(t, m, 0, id, 11, 11, want)
			expectUnchanged(t, m, 0, id, 9, 12, want)
			expectPlace(t, m, api.Order{Trader: 1, Side: 1 - side, Price: 10, Qty: 6, How: api.Whole}, 4,
				api.Trade{Taker: 4, Maker: 1, With: 0, Price: 10, Qty: 1},
				api.Trade{Taker: 4, Maker: 2, With: 0, Price: 10, Qty: 2},
				api.Trade{Taker: 4, Maker: 3, With: 0, Price: 10, Qty: 3})
		}
	}
}

func TestChangedOrderTradesAsOneThatComes(t *testing.T) {
	m := stocked(t, 4, 1, 10000, 100, 100)
	expectPlace(t, m, sell(0, 52, 4, api.Wait), 1)
	expectPlace(t, m, sell(1, 51, 3, api.Wait), 2)
	expectPlace(t, m, buy(2, 40, 20, api.Post), 3)
	expectChange(t, m, 2, 3, 52, 10, 4, // Post no more, so it may trade
		api.Trade{Taker: 4, Maker: 2, With: 1, Price: 51, Qty: 3, Fee: 1},
		api.Trade{Taker: 4, Maker: 1, With: 0, Price: 52, Qty: 4, Fee: 2})
	expectOrders(t, m, 2, api.Order{Id: 4, Trader: 2, Price: 52, Qty: 3})
	expectHeld(t, m, 2, 10000-361-3-156, 156, api.Stock{Free: 107})
	expectPlace(t, m, sell(3, 60, 9, api.Wait), 5)
	expectChange(t, m, 3, 5, 50, 2, 6, api.Trade{Taker: 6, Maker: 4, With: 2, Price: 52, Qty: 2, Fee: 1})
	expectAccount(t, m, 3, 10103, api.Stock{Free: 98})
	expectOrders(t, m, 3)
	expectBook(t, m, 0, 0, []api.Level{{Price: 52, Qty: 1, Orders: 1}}, nil)
	expectStat(t, m, 0, 0, api.Stat{Last: 52, Pieces: 9, Mean: float64(153+208+104) / 9})
	expectHouse(t, m, 4)
}

func TestChangedOrderTakesItsOwnBack(t *testing.T) {
	m := stocked(t, 2, 1, 1000, 100, 0)
	expectPlace(t, m, buy(0, 10, 5, api.Wait), 1)
	expectPlace(t, m, sell(0, 12, 6, api.Wait), 2)
	expectPlace(t, m, sell(1, 12, 7, api.Wait), 3)
	expectPlace(t, m, sell(0, 13, 8, api.Wait), 4)
	expectChange(t, m, 0, 1, 12, 8, 5, api.Trade{Taker: 5, Maker: 3, With: 1, Price: 12, Qty: 7})
	expectHeld(t, m, 0, 1000-84-12, 12, api.Stock{Free: 99, Held: 8})
	expectOrders(t, m, 0, api.Order{Id: 4, Side: api.Sell, Price: 13, Qty: 8}, api.Order{Id: 5, Price: 12, Qty: 1})
	expectChange(t, m, 0, 4, 12, 9, 6)
	expectAccount(t, m, 0, 1000-84, api.Stock{Free: 98, Held: 9})
	expectOrders(t, m, 0, api.Order{Id: 6, Side: api.Sell, Price: 12, Qty: 9})
}

func TestChangeNeedsNoRoom(t *testing.T) {
	m := stocked(t, 2, 1, 1000, 100, 0)
	for i := range api.MaxOrders {
		expectPlace(t, m, sell(0, 5, 1, api.Wait), i+1)
	}
	expectChange(t, m, 0, 9, 6, 2, 61)
	expectChange(t, m, 0, 61, 6, 1, 61)
	expectUnchanged(t, m, 0, 61, 6, 42, api.ErrStock)
	expectRefused(t, m, sell(1, 5, 1, api.Wait), api.ErrFull)
	expectBook(t, m, 0, 0, nil, []api.Level{{Price: 5, Qty: 59, Orders: 59}, {Price: 6, Qty: 1, Orders: 1}})
}

func TestChangeToTheLeastAndTheMost(t *testing.T) {
	m := newMarket(t, 1, 1, api.MaxRate)
	expect(t, "Pay", m.Pay(0, 1010000000), api.OK)
	bringMany(t, m, 0, 0, 0, api.MaxQty)
	expectPlace(t, m, buy(0, 7, 7, api.Wait), 1)
	expectChange(t, m, 0, 1, 1, 1, 2)
	expectHeld(t, m, 0, 1009999999, 1, api.Stock{Free: api.MaxQty})
	expectChange(t, m, 0, 2, api.MaxPrice, api.MaxQty, 3)
	expectHeld(t, m, 0, 10000000, 1000000000, api.Stock{Free: api.MaxQty})
	expect(t, "P8: Cancel", m.Cancel(0, 3), api.OK)
	expectPlace(t, m, sell(0, 7, 7, api.Wait), 4)
	expectChange(t, m, 0, 4, api.MaxPrice, api.MaxQty, 5)
	expectChange(t, m, 0, 5, 1, 1, 6)
	expectAccount(t, m, 0, 1010000000, api.Stock{Free: api.MaxQty - 1, Held: 1})
}

func TestTradesOfAChangeAreTheCallers(t *testing.T) {
	m := stocked(t, 2, 1, 1000, 100, 100)
	for i := range 5 {
		expectPlace(t, m, sell(0, 10+i, 1, api.Wait), i+1)
	}
	expectPlace(t, m, buy(1, 1, 1, api.Wait), 6)
	_, trades, _ := m.Change(1, 6, 12, 3)
	if len(trades) != 3 {
		t.Fatalf("P9: the trades are %+v", trades)
	}
	before := picture(m)
	room := trades[:cap(trades)]
	for i := range room {
		room[i] = api.Trade{Taker: -1, Maker: -1, Price: -1, Qty: -1}
	}
	if after := picture(m); after != before {
		t.Errorf("P2: writing into trades changed %s to %s", before, after)
	}
}
