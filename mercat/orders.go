package mercat

import "mercat/api"

// Place places an order (P7).
func (m *Market) Place(o api.Order) (int, []api.Trade, api.Errno) {
	if e := m.refusal(o); e != api.OK {
		return 0, nil, e
	}
	m.numbers++
	o.Id = m.numbers
	m.hold(&o)
	trades := m.match(&o)
	if o.Qty > 0 && (o.How == api.Wait || o.How == api.Post) {
		m.sideOf(&o).Add(&o)
	} else {
		m.release(&o)
	}
	return o.Id, trades, api.OK
}

// refusal is the error for which an order may not be placed, or OK.
func (m *Market) refusal(o api.Order) api.Errno {
	switch {
	case !m.hasTrader(o.Trader):
		return api.ErrTrader
	case !m.hasHall(o.Hall):
		return api.ErrHall
	case !m.hasGood(o.Good):
		return api.ErrGood
	case !numbersFit(o):
		return api.ErrNumber
	case len(m.waiting()) >= api.MaxOrders:
		return api.ErrFull
	case o.Side == api.Buy && m.accounts[o.Trader].money < m.cost(o):
		return api.ErrMoney
	case o.Side == api.Sell && m.accounts[o.Trader].pieces[o.Hall][o.Good] < o.Qty:
		return api.ErrStock
	case o.How == api.Post && m.piecesMet(o) > 0:
		return api.ErrCross
	case o.How == api.Whole && m.piecesMet(o) < o.Qty:
		return api.ErrShort
	}
	return api.OK
}

func numbersFit(o api.Order) bool {
	return within(o.Side, api.Buy, api.Sell) && within(o.How, api.Wait, api.Post) &&
		within(o.Price, 1, api.MaxPrice) && within(o.Qty, 1, api.MaxQty)
}

// cost is the most that an order to buy can take. Fees are rounded down, so
// those of its trades are together never above the one of the whole.
func (m *Market) cost(o api.Order) int {
	amount := o.Price * o.Qty
	return amount + m.fee(o.Hall, amount)
}

func (m *Market) fee(hall, amount int) int { return amount * m.rates[hall] / 10000 }

// piecesMet is how many pieces those have left that an order meets.
func (m *Market) piecesMet(o api.Order) int {
	sum := 0
	for w := range m.bookOf(&o).sides[otherSide(o.Side)].All() {
		if w.Trader != o.Trader && pricesFit(&o, w) {
			sum += w.Qty
		}
	}
	return sum
}

// match lets an order that came trade, as long as pieces of it are left and
// there is one that waits at a price that fits.
func (m *Market) match(o *api.Order) []api.Trade {
	b := m.bookOf(o)
	others := b.sides[otherSide(o.Side)]
	var trades []api.Trade
	for o.Qty > 0 {
	look:
		w, ok := others.First()
		if !ok || !pricesFit(o, w) {
			break
		}
		if w.Trader == o.Trader {
			m.takeBack(w)
			goto look
		}
		t := m.trade(o, w)
		b.note(t)
		trades = append(trades, t)
		if w.Qty == 0 {
			others.Remove(w)
		}
	}
	return trades
}

// trade moves money and goods between an order that came and one that waited.
// All that both can give is held, the buyer's at the price of its own order.
func (m *Market) trade(came, waited *api.Order) api.Trade {
	buy, sell := came, waited
	if came.Side == api.Sell {
		buy, sell = waited, came
	}
	pieces := min(came.Qty, waited.Qty)
	amount := waited.Price * pieces
	fee := m.fee(came.Hall, amount)
	m.accounts[buy.Trader].money += buy.Price*pieces - amount
	m.accounts[buy.Trader].pieces[buy.Hall][buy.Good] += pieces
	m.accounts[sell.Trader].money += amount
	m.accounts[came.Trader].money -= fee
	m.house += fee
	came.Qty -= pieces
	waited.Qty -= pieces
	return api.Trade{Taker: came.Id, Maker: waited.Id, With: waited.Trader, Price: waited.Price, Qty: pieces, Fee: fee}
}

// hold takes what an order wants to give from what its trader has free. It is
// not added up anywhere: what is left of the orders tells what is held.
func (m *Market) hold(o *api.Order) {
	a := &m.accounts[o.Trader]
	if o.Side == api.Buy {
		a.money -= o.Price * o.Qty
	} else {
		a.pieces[o.Hall][o.Good] -= o.Qty
	}
}

// release frees what is still held for an order.
func (m *Market) release(o *api.Order) {
	a := &m.accounts[o.Trader]
	if o.Side == api.Buy {
		a.money += o.Price * o.Qty
	} else {
		a.pieces[o.Hall][o.Good] += o.Qty
	}
}

func otherSide(side int) int {
	if side == api.Buy {
		return api.Sell
	}
	return api.Buy
}

// pricesFit tells whether two orders of two sides could trade by their prices.
func pricesFit(a, b *api.Order) bool {
	if a.Side == api.Buy {
		return a.Price >= b.Price
	}
	return b.Price >= a.Price
}
