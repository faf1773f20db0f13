package mercat_test

import (
	"slices"
	"testing"

	"mercat/api"
	"mercat/mercat"
)

func TestNewTakesAllSizesUpToTheLimits(t *testing.T) {
	for traders := 1; traders <= api.MaxTraders; traders++ {
		for goods := 1; goods <= api.MaxGoods; goods++ {
			for halls := 1; halls <= api.MaxHalls; halls++ {
				m := newMarket(t, traders, goods, make([]int, halls)...)
				expect(t, "P3: Pay of the last trader", m.Pay(traders-1, 1), api.OK)
				expect(t, "P3: Pay of one trader more", m.Pay(traders, 1), api.ErrTrader)
				expect(t, "P3: Bring to the last hall", m.Bring(0, halls-1, 0, 1), api.OK)
				expect(t, "P3: Bring to one hall more", m.Bring(0, halls, 0, 1), api.ErrHall)
				expect(t, "P3: Bring of the last good", m.Bring(0, 0, goods-1, 1), api.OK)
				expect(t, "P3: Bring of one good more", m.Bring(0, 0, goods, 1), api.ErrGood)
			}
		}
	}
	for rate := 0; rate <= api.MaxRate; rate++ {
		newMarket(t, 1, 1, rate)
		newMarket(t, 1, 1, 0, api.MaxRate, 1, rate)
	}
}

func TestNewRefusesOtherSizes(t *testing.T) {
	refuse := func(traders, goods int, rates ...int) {
		t.Helper()
		if m, e := mercat.New(traders, goods, rates); m != nil || e != api.ErrSize {
			t.Errorf("P3: New(%d, %d, %d rates) = %v, %d, want nil, %d", traders, goods, len(rates), m, e, api.ErrSize)
		}
	}
	for _, n := range append([]int{0}, farOff...) {
		refuse(n, 1, 0)
		refuse(1, n, 0)
	}
	refuse(api.MaxTraders+1, 1, 0)
	refuse(1, api.MaxGoods+1, 0)
	refuse(1, 1)
	refuse(1, 1, make([]int, api.MaxHalls+1)...)
	refuse(1, 1, make([]int, 100000)...)
	for _, rate := range append([]int{api.MaxRate + 1}, farOff...) {
		refuse(1, 1, rate)
		for at := range api.MaxHalls {
			rates := make([]int, api.MaxHalls)
			rates[at] = rate
			refuse(1, 1, rates...)
		}
	}
	if m, e := mercat.New(1, 1, []int{}); m != nil || e != api.ErrSize {
		t.Errorf("P3: New with an empty list = %v, %d", m, e)
	}
}

func TestNewBeginsWithNothing(t *testing.T) {
	m := newMarket(t, api.MaxTraders, api.MaxGoods, 0, 1, 99, 100)
	for trader := range api.MaxTraders {
		expectAccount(t, m, trader, 0)
		expect(t, "P3: Draw of the first piece of money", m.Draw(trader, 1), api.ErrMoney)
		for hall := range api.MaxHalls {
			for good := range api.MaxGoods {
				expect(t, "P3: Take of the first piece", m.Take(trader, hall, good, 1), api.ErrStock)
			}
		}
	}
}

func TestMarketsStandAlone(t *testing.T) {
	first, second := newMarket(t, 2, 2, 1, 2, 3), newMarket(t, 2, 2, 1, 2, 3)
	before := picture(second)
	expect(t, "Pay", first.Pay(0, 500), api.OK)
	expect(t, "Bring", first.Bring(0, 1, 1, 50), api.OK)
	expect(t, "Ship", first.Ship(0, 1, 0, 1, 20), api.OK)
	tickTimes(t, first, api.Way-1)
	expectPlace(t, first, api.Order{Trader: 0, Price: 3, Qty: 5}, 1)
	if after := picture(second); after != before {
		t.Errorf("P2: calls at one market changed another: %s", after)
	}
	expect(t, "Bring", second.Bring(0, 1, 1, 50), api.OK)
	expect(t, "Ship", second.Ship(0, 1, 0, 1, 20), api.OK)
	tickTimes(t, second, api.Way)
	expect(t, "Pay", second.Pay(1, 5), api.OK)
	expectPlace(t, second, api.Order{Trader: 1, Price: 4, Qty: 1}, 1)
	expectKept(t, second, 0, 1, api.ErrOrder)
	expectChange(t, second, 1, 1, 1, 3, 2)
	expect(t, "P8: Cancel", second.Cancel(1, 2), api.OK)
	expectHeld(t, first, 0, 485, 15, api.Stock{Hall: 0, Good: 1, Coming: 20}, api.Stock{Hall: 1, Good: 1, Free: 30})
	expectOrders(t, first, 0, api.Order{Id: 1, Price: 3, Qty: 5})
}

func TestRatesAreReadOnlyAndNotKept(t *testing.T) {
	rates := []int{5, 100, 7, 8}
	m, _ := mercat.New(2, 1, rates[:2])
	expect(t, "Pay", m.Pay(0, 1010), api.OK)
	if !slices.Equal(rates, []int{5, 100, 7, 8}) {
		t.Errorf("P2: New wrote into its rates: %v", rates)
	}
	rates[0], rates[1] = -1, 50
	expect(t, "P2: Bring after the rates were written over", m.Bring(1, 1, 0, 10), api.OK)
	expectPlace(t, m, api.Order{Trader: 1, Hall: 1, Side: api.Sell, Price: 100, Qty: 10}, 1)
	expectPlace(t, m, api.Order{Trader: 0, Hall: 1, Side: api.Buy, Price: 100, Qty: 10}, 2,
		api.Trade{Taker: 2, Maker: 1, With: 1, Price: 100, Qty: 10, Fee: 10})
}

func TestNoMarketIsRefused(t *testing.T) {
	m, _ := mercat.New(0, 0, nil)
	expect(t, "P1: Pay", m.Pay(0, 1), api.ErrTrader)
	expect(t, "P1: Draw", m.Draw(0, 1), api.ErrTrader)
	expect(t, "P1: Bring", m.Bring(0, 0, 0, 1), api.ErrTrader)
	expect(t, "P1: Take", m.Take(0, 0, 0, 1), api.ErrTrader)
	expect(t, "P1: Ship", m.Ship(0, 0, 1, 0, 1), api.ErrTrader)
	expect(t, "P1: Tick", m.Tick(), api.ErrFull)
	expectRefused(t, m, api.Order{Price: 1, Qty: 1}, api.ErrTrader)
	expectKept(t, m, 0, 1, api.ErrTrader)
	expectUnchanged(t, m, 0, 1, 1, 1, api.ErrTrader)
	if buys, sells, e := m.Book(0, 0); len(buys) != 0 || len(sells) != 0 || e != api.ErrHall {
		t.Errorf("P1: Book = %v, %v, %d", buys, sells, e)
	}
	if orders, e := m.Orders(0); len(orders) != 0 || e != api.ErrTrader {
		t.Errorf("P1: Orders = %v, %d", orders, e)
	}
	if stat, e := m.Stat(0, 0); stat != (api.Stat{}) || e != api.ErrHall {
		t.Errorf("P1: Stat = %+v, %d", stat, e)
	}
	if fees := m.House(); fees != 0 {
		t.Errorf("P1: House = %d", fees)
	}
	if a, e := m.Account(0); e != api.ErrTrader || a.Free != 0 || a.Held != 0 || len(a.Goods) != 0 {
		t.Errorf("P1: Account = %+v, %d", a, e)
	}
}
