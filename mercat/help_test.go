package mercat_test

import (
	"fmt"
	"math"
	"slices"
	"testing"

	"mercat/api"
	"mercat/mercat"
)

// farOff are numbers that are no trader, hall, good, money or pieces.
var farOff = []int{math.MinInt, math.MinInt + 1, -api.MaxMoney, -1 << 32, -1, 1 << 32, 1 << 62, math.MaxInt - 1, math.MaxInt}

func newMarket(t *testing.T, traders, goods int, rates ...int) *mercat.Market {
	t.Helper()
	m, e := mercat.New(traders, goods, rates)
	if m == nil || e != api.OK {
		t.Fatalf("New(%d, %d, %v) = %v, %d, want a market", traders, goods, rates, m, e)
	}
	return m
}

func expect(t *testing.T, what string, got, want api.Errno) {
	t.Helper()
	if got != want {
		t.Errorf("%s = %d, want %d", what, got, want)
	}
}

func expectAccount(t *testing.T, m *mercat.Market, trader, money int, goods ...api.Stock) {
	t.Helper()
	a, e := m.Account(trader)
	if e != api.OK || a.Free != money || a.Held != 0 || !slices.Equal(a.Goods, goods) {
		t.Errorf("Account(%d) = %+v, %d, want %d free, 0 held and %+v", trader, a, e, money, goods)
	}
}

// picture is what all accounts of a market tell, as one text.
func picture(m *mercat.Market) string {
	text := ""
	for trader := range api.MaxTraders {
		a, e := m.Account(trader)
		text += fmt.Sprintln(trader, a.Free, a.Held, a.Goods, e)
	}
	return text
}

// bringMany brings more pieces than one call may.
func bringMany(t *testing.T, m *mercat.Market, trader, hall, good, pieces int) {
	t.Helper()
	for pieces > 0 {
		some := min(pieces, api.MaxQty)
		expect(t, "Bring", m.Bring(trader, hall, good, some), api.OK)
		pieces -= some
	}
}

func tickTimes(t *testing.T, m *mercat.Market, times int) {
	t.Helper()
	for range times {
		expect(t, "Tick", m.Tick(), api.OK)
	}
}
