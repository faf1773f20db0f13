package mercat

import "mercat/api"

// Cancel takes an order back (P8).
func (m *Market) Cancel(trader, id int) api.Errno {
	if !m.hasTrader(trader) {
		return api.ErrTrader
	}
	o := m.find(trader, id)
	if o == nil {
		return api.ErrOrder
	}
	m.takeBack(o)
	return api.OK
}

// Change changes an order's price and quantity (P9).
func (m *Market) Change(trader, id, price, qty int) (int, []api.Trade, api.Errno) {
	if !m.hasTrader(trader) {
		return 0, nil, api.ErrTrader
	}
	o := m.find(trader, id)
	if o == nil {
		return 0, nil, api.ErrOrder
	}
	anew := *o
	anew.Price, anew.Qty, anew.How = price, qty, api.Wait
	switch {
	case !numbersFit(anew):
		return 0, nil, api.ErrNumber
	case price == o.Price && qty <= o.Qty:
		m.lessen(o, qty)
		return id, nil, api.OK
	}
	return m.replace(o, anew)
}

// find gives the order of a trader that waits with a number, or nil.
func (m *Market) find(trader, id int) *api.Order {
	for _, o := range m.waiting() {
		if o.Trader == trader && o.Id == id {
			return o
		}
	}
	return nil
}

// takeBack lets an order wait no more.
func (m *Market) takeBack(o *api.Order) {
	m.sideOf(o).Remove(o)
	m.release(o)
}

// lessen leaves fewer pieces of an order. Its place hangs on its price and its
// number alone, so it need not be moved.
func (m *Market) lessen(o *api.Order, qty int) {
	m.release(o)
	o.Qty = qty
	m.hold(o)
}

// replace places an order instead of one that waits. That one is taken back
// first, since its room and what is held for it may be needed; if the new one
// is refused, it comes to stand again where it stood, by its number.
func (m *Market) replace(o *api.Order, anew api.Order) (int, []api.Trade, api.Errno) {
	m.takeBack(o)
	id, trades, e := m.Place(anew)
	if e != api.OK {
		m.hold(o)
		m.sideOf(o).Add(o)
	}
	return id, trades, e
}
