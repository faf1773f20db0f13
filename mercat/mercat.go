// Package mercat: markets in several halls: see DOC.md.
package mercat

import (
	"slices"

	"mercat/api"
)

// Market is traders, halls, and what waits there.
type Market struct {
	goods    int
	rates    []int // of the halls, one each
	accounts []account
	loads    []load
	time     int
}

// New gives a market (P3).
func New(traders, goods int, rates []int) (*Market, api.Errno) {
	if !within(traders, 1, api.MaxTraders) || !within(goods, 1, api.MaxGoods) || !ratesFit(rates) {
		return nil, api.ErrSize
	}
	return &Market{
		goods:    goods,
		rates:    slices.Clone(rates),
		accounts: make([]account, traders),
	}, api.OK
}

func ratesFit(rates []int) bool {
	if !within(len(rates), 1, api.MaxHalls) {
		return false
	}
	for _, rate := range rates {
		if !within(rate, 0, api.MaxRate) {
			return false
		}
	}
	return true
}

func within(n, least, most int) bool { return least <= n && n <= most }

// hasTrader is asked first by every call of a trader's: New gives no market
// beside an error, and a call at none is to be refused, not to panic.
func (m *Market) hasTrader(trader int) bool {
	return m != nil && within(trader, 0, len(m.accounts)-1)
}

func (m *Market) hasHall(hall int) bool { return within(hall, 0, len(m.rates)-1) }

func (m *Market) hasGood(good int) bool { return within(good, 0, m.goods-1) }

// Place places an order (P7).
func (m *Market) Place(o api.Order) (int, []api.Trade, api.Errno) { return 0, nil, api.OK }

// Cancel takes an order back (P8).
func (m *Market) Cancel(trader, id int) api.Errno { return api.OK }

// Change changes an order's price and quantity (P9).
func (m *Market) Change(trader, id, price, qty int) (int, []api.Trade, api.Errno) {
	return 0, nil, api.OK
}

// Book tells what waits of a good in a hall (P10).
func (m *Market) Book(hall, good int) ([]api.Level, []api.Level, api.Errno) {
	return nil, nil, api.OK
}

// Orders tells a trader's orders that wait (P10).
func (m *Market) Orders(trader int) ([]api.Order, api.Errno) { return nil, api.OK }

// Stat tells what was traded of a good in a hall (P10).
func (m *Market) Stat(hall, good int) (api.Stat, api.Errno) { return api.Stat{}, api.OK }

// House tells the fees that came in (P10).
func (m *Market) House() int { return 0 }
