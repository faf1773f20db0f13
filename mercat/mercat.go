// Package mercat: markets in several halls: see DOC.md.
package mercat

import (
	"slices"

	"mercat/api"
)

// Market is traders, halls, and what waits there.
type Market struct {
	goods    int
	rates    []int // of the halls, one each
	accounts []account
	loads    []load
	books    [][]book // by halls, then goods
	numbers  int      // of orders, given so far
	house    int      // the fees
	time     int
}

// New gives a market (P3).
func New(traders, goods int, rates []int) (*Market, api.Errno) {
	if !within(traders, 1, api.MaxTraders) || !within(goods, 1, api.MaxGoods) || !ratesFit(rates) {
		return nil, api.ErrSize
	}
	return &Market{
		goods:    goods,
		rates:    slices.Clone(rates),
		accounts: make([]account, traders),
		books:    newBooks(len(rates), goods),
	}, api.OK
}

func ratesFit(rates []int) bool {
	if !within(len(rates), 1, api.MaxHalls) {
		return false
	}
	for _, rate := range rates {
		if !within(rate, 0, api.MaxRate) {
			return false
		}
	}
	return true
}

func within(n, least, most int) bool { return least <= n && n <= most }

// hasTrader, or hasHall, is what a call asks first: New gives no market beside
// an error, and a call at none is to be refused, not to panic.
func (m *Market) hasTrader(trader int) bool {
	return m != nil && within(trader, 0, len(m.accounts)-1)
}

func (m *Market) hasHall(hall int) bool { return m != nil && within(hall, 0, len(m.rates)-1) }

func (m *Market) hasGood(good int) bool { return within(good, 0, m.goods-1) }
