package mercat_test

import (
	"fmt"
	"math"
	"slices"
	"testing"

	"mercat/api"
	"mercat/mercat"
)

// farOff are numbers that are no trader, hall, good, money or pieces.
var farOff = []int{math.MinInt, math.MinInt + 1, -api.MaxMoney, -1 << 32, -1, 1 << 32, 1 << 62, math.MaxInt - 1, math.MaxInt}

func newMarket(t *testing.T, traders, goods int, rates ...int) *mercat.Market {
	t.Helper()
	m, e := mercat.New(traders, goods, rates)
	if m == nil || e != api.OK {
		t.Fatalf("New(%d, %d, %v) = %v, %d, want a market", traders, goods, rates, m, e)
	}
	return m
}

func expect(t *testing.T, what string, got, want api.Errno) {
	t.Helper()
	if got != want {
		t.Errorf("%s = %d, want %d", what, got, want)
	}
}

// expectAccount wants an account of which no money is held.
func expectAccount(t *testing.T, m *mercat.Market, trader, money int, goods ...api.Stock) {
	t.Helper()
	expectHeld(t, m, trader, money, 0, goods...)
}

func expectHeld(t *testing.T, m *mercat.Market, trader, free, held int, goods ...api.Stock) {
	t.Helper()
	a, e := m.Account(trader)
	if e != api.OK || a.Free != free || a.Held != held || !slices.Equal(a.Goods, goods) {
		t.Errorf("Account(%d) = %+v, %d, want %d free, %d held and %+v", trader, a, e, free, held, goods)
	}
}

// picture is all that a market tells, as one text.
func picture(m *mercat.Market) string {
	text := fmt.Sprintln(m.House())
	for trader := range api.MaxTraders {
		a, e := m.Account(trader)
		orders, _ := m.Orders(trader)
		text += fmt.Sprintln(trader, a.Free, a.Held, a.Goods, orders, e)
	}
	for hall := range api.MaxHalls {
		for good := range api.MaxGoods {
			buys, sells, e := m.Book(hall, good)
			stat, _ := m.Stat(hall, good)
			text += fmt.Sprintln(hall, good, buys, sells, stat, e)
		}
	}
	return text
}

// bringMany brings more pieces than one call may.
func bringMany(t *testing.T, m *mercat.Market, trader, hall, good, pieces int) {
	t.Helper()
	for pieces > 0 {
		some := min(pieces, api.MaxQty)
		expect(t, "Bring", m.Bring(trader, hall, good, some), api.OK)
		pieces -= some
	}
}

func tickTimes(t *testing.T, m *mercat.Market, times int) {
	t.Helper()
	for range times {
		expect(t, "Tick", m.Tick(), api.OK)
	}
}

// stocked is a market where each trader has so much money, and of each good in each hall so many pieces.
func stocked(t *testing.T, traders, goods, money, pieces int, rates ...int) *mercat.Market {
	t.Helper()
	m := newMarket(t, traders, goods, rates...)
	for trader := range traders {
		expect(t, "Pay", m.Pay(trader, money), api.OK)
		for hall := range rates {
			for good := range goods {
				bringMany(t, m, trader, hall, good, pieces)
			}
		}
	}
	return m
}

func buy(trader, price, qty, how int) api.Order {
	return api.Order{Trader: trader, Side: api.Buy, Price: price, Qty: qty, How: how}
}

func sell(trader, price, qty, how int) api.Order {
	return api.Order{Trader: trader, Side: api.Sell, Price: price, Qty: qty, How: how}
}

func expectPlace(t *testing.T, m *mercat.Market, o api.Order, id int, trades ...api.Trade) {
	t.Helper()
	number, got, e := m.Place(o)
	if number != id || e != api.OK || !slices.Equal(got, trades) {
		t.Errorf("P7: Place(%+v) = %d, %+v, %d, want %d, %+v", o, number, got, e, id, trades)
	}
}

// expectRefused wants an order to be refused, and nothing to be changed by it.
func expectRefused(t *testing.T, m *mercat.Market, o api.Order, want api.Errno) {
	t.Helper()
	before := picture(m)
	if number, trades, e := m.Place(o); number != 0 || len(trades) != 0 || e != want {
		t.Errorf("P7: Place(%+v) = %d, %+v, %d, want %d", o, number, trades, e, want)
	}
	if after := picture(m); after != before {
		t.Errorf("P1: Place(%+v) was refused and changed %s to %s", o, before, after)
	}
}

func expectBook(t *testing.T, m *mercat.Market, hall, good int, buys, sells []api.Level) {
	t.Helper()
	gotBuys, gotSells, e := m.Book(hall, good)
	if e != api.OK || !slices.Equal(gotBuys, buys) || !slices.Equal(gotSells, sells) {
		t.Errorf("P10: Book(%d, %d) = %v, %v, %d, want %v, %v", hall, good, gotBuys, gotSells, e, buys, sells)
	}
}

func expectOrders(t *testing.T, m *mercat.Market, trader int, want ...api.Order) {
	t.Helper()
	if got, e := m.Orders(trader); e != api.OK || !slices.Equal(got, want) {
		t.Errorf("P10: Orders(%d) = %+v, %d, want %+v", trader, got, e, want)
	}
}

func expectStat(t *testing.T, m *mercat.Market, hall, good int, want api.Stat) {
	t.Helper()
	if got, e := m.Stat(hall, good); e != api.OK || got != want {
		t.Errorf("P10: Stat(%d, %d) = %+v, %d, want %+v", hall, good, got, e, want)
	}
}

func expectHouse(t *testing.T, m *mercat.Market, want int) {
	t.Helper()
	if got := m.House(); got != want {
		t.Errorf("P10: House = %d, want %d", got, want)
	}
}
