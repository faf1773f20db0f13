package mercat

import (
	"cmp"
	"slices"

	"mercat/api"
	"mercat/queue"
)

// book is what waits of a good in a hall, and what was traded of it there.
type book struct {
	sides  [2]*queue.Queue[*api.Order] // at api.Buy and api.Sell
	last   int                         // the price of the last trade
	pieces int                         // of all trades
	amount int                         // of all trades
}

func newBooks(halls, goods int) [][]book {
	books := make([][]book, halls)
	for hall := range books {
		books[hall] = make([]book, goods)
		for good := range books[hall] {
			sides := &books[hall][good].sides
			sides[api.Buy] = queue.New(aheadToBuy)
			sides[api.Sell] = queue.New(aheadToSell)
		}
	}
	return books
}

func aheadToBuy(a, b *api.Order) bool {
	return a.Price > b.Price || a.Price == b.Price && a.Id < b.Id
}

func aheadToSell(a, b *api.Order) bool {
	return a.Price < b.Price || a.Price == b.Price && a.Id < b.Id
}

// Book tells what waits of a good in a hall (P10).
func (m *Market) Book(hall, good int) ([]api.Level, []api.Level, api.Errno) {
	if e := m.checkBook(hall, good); e != api.OK {
		return nil, nil, e
	}
	b := &m.books[hall][good]
	return levels(b.sides[api.Buy]), levels(b.sides[api.Sell]), api.OK
}

// Orders tells a trader's orders that wait (P10).
func (m *Market) Orders(trader int) ([]api.Order, api.Errno) {
	if !m.hasTrader(trader) {
		return nil, api.ErrTrader
	}
	var own []api.Order
	for _, o := range m.waiting() {
		if o.Trader == trader {
			own = append(own, *o)
		}
	}
	slices.SortFunc(own, func(a, b api.Order) int { return cmp.Compare(a.Id, b.Id) })
	return own, api.OK
}

// Stat tells what was traded of a good in a hall (P10).
func (m *Market) Stat(hall, good int) (api.Stat, api.Errno) {
	if e := m.checkBook(hall, good); e != api.OK {
		return api.Stat{}, e
	}
	b := &m.books[hall][good]
	return api.Stat{Last: b.last, Pieces: b.pieces, Mean: b.mean()}, api.OK
}

// House tells the fees that came in (P10).
func (m *Market) House() int {
	if m == nil {
		return 0
	}
	return m.house
}

// checkBook gives the errors that Book and Stat have in common.
func (m *Market) checkBook(hall, good int) api.Errno {
	switch {
	case !m.hasHall(hall):
		return api.ErrHall
	case !m.hasGood(good):
		return api.ErrGood
	}
	return api.OK
}

func (m *Market) bookOf(o *api.Order) *book { return &m.books[o.Hall][o.Good] }

// sideOf is where an order waits, or would.
func (m *Market) sideOf(o *api.Order) *queue.Queue[*api.Order] { return m.bookOf(o).sides[o.Side] }

// waiting is all orders that wait, in no order that is told.
func (m *Market) waiting() []*api.Order {
	var all []*api.Order
	for _, hall := range m.books {
		for _, b := range hall {
			for _, side := range b.sides {
				all = slices.AppendSeq(all, side.All())
			}
		}
	}
	return all
}

// levels puts orders of one price together; in a queue they stand side by side.
func levels(side *queue.Queue[*api.Order]) []api.Level {
	var all []api.Level
	for o := range side.All() {
		if len(all) == 0 || all[len(all)-1].Price != o.Price {
			all = append(all, api.Level{Price: o.Price})
		}
		last := &all[len(all)-1]
		last.Qty += o.Qty
		last.Orders++
	}
	return all
}

// note keeps of a trade what Stat tells.
func (b *book) note(t api.Trade) {
	b.last = t.Price
	b.pieces += t.Qty
	b.amount += t.Price * t.Qty
}

// mean is the price of a piece over all trades.
func (b *book) mean() float64 {
	if b.pieces == 0 {
		return 0
	}
	return float64(b.amount) / float64(b.pieces)
}
