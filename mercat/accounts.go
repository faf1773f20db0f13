package mercat

import "mercat/api"

// account is what a trader has free. What is held and what is coming is not
// kept here: the orders that wait and the loads under way tell it, so they
// can't come apart.
type account struct {
	money  int
	pieces [api.MaxHalls][api.MaxGoods]int
}

// Pay brings a trader money (P4).
func (m *Market) Pay(trader, money int) api.Errno {
	switch {
	case !m.hasTrader(trader):
		return api.ErrTrader
	case !within(money, 1, api.MaxMoney):
		return api.ErrNumber
	case m.allMoney()+money > api.MaxMoney:
		return api.ErrFull
	}
	m.accounts[trader].money += money
	return api.OK
}

// Draw takes money of a trader's out (P4).
func (m *Market) Draw(trader, money int) api.Errno {
	switch {
	case !m.hasTrader(trader):
		return api.ErrTrader
	case !within(money, 1, api.MaxMoney):
		return api.ErrNumber
	case m.accounts[trader].money < money:
		return api.ErrMoney
	}
	m.accounts[trader].money -= money
	return api.OK
}

// Bring brings a trader goods (P5).
func (m *Market) Bring(trader, hall, good, pieces int) api.Errno {
	if e := m.checkPieces(trader, hall, good, pieces); e != api.OK {
		return e
	}
	if m.allPieces(good)+pieces > api.MaxStock {
		return api.ErrFull
	}
	m.accounts[trader].pieces[hall][good] += pieces
	return api.OK
}

// Take takes goods of a trader's out (P5).
func (m *Market) Take(trader, hall, good, pieces int) api.Errno {
	if e := m.checkPieces(trader, hall, good, pieces); e != api.OK {
		return e
	}
	if m.accounts[trader].pieces[hall][good] < pieces {
		return api.ErrStock
	}
	m.accounts[trader].pieces[hall][good] -= pieces
	return api.OK
}

// Account tells what a trader has (P6).
func (m *Market) Account(trader int) (api.Account, api.Errno) {
	if !m.hasTrader(trader) {
		return api.Account{}, api.ErrTrader
	}
	a := api.Account{Free: m.accounts[trader].money, Held: m.heldMoney(trader)}
	for hall := range m.rates {
		for good := range m.goods {
			s := m.stock(trader, hall, good)
			if s.Free != 0 || s.Held != 0 || s.Coming != 0 {
				a.Goods = append(a.Goods, s)
			}
		}
	}
	return a, api.OK
}

// checkPieces gives the errors that Bring and Take have in common.
func (m *Market) checkPieces(trader, hall, good, pieces int) api.Errno {
	switch {
	case !m.hasTrader(trader):
		return api.ErrTrader
	case !m.hasHall(hall):
		return api.ErrHall
	case !m.hasGood(good):
		return api.ErrGood
	case !within(pieces, 1, api.MaxQty):
		return api.ErrNumber
	}
	return api.OK
}

// stock is what a trader has of a good in a hall.
func (m *Market) stock(trader, hall, good int) api.Stock {
	s := api.Stock{Hall: hall, Good: good, Free: m.accounts[trader].pieces[hall][good]}
	for o := range m.books[hall][good].sides[api.Sell].All() {
		if o.Trader == trader {
			s.Held += o.Qty
		}
	}
	for _, l := range m.loads {
		if l.trader == trader && l.to == hall && l.good == good {
			s.Coming += l.pieces
		}
	}
	return s
}

// heldMoney is a trader's money that is held for orders to buy.
func (m *Market) heldMoney(trader int) int {
	sum := 0
	for _, o := range m.waiting() {
		if o.Trader == trader && o.Side == api.Buy {
			sum += o.Price * o.Qty
		}
	}
	return sum
}

// allMoney is the money of all traders and the house together.
func (m *Market) allMoney() int {
	sum := m.house
	for trader, a := range m.accounts {
		sum += a.money + m.heldMoney(trader)
	}
	return sum
}

// allPieces is how many pieces of a good all traders have together.
func (m *Market) allPieces(good int) int {
	sum := 0
	for trader := range m.accounts {
		for hall := range m.rates {
			s := m.stock(trader, hall, good)
			sum += s.Free + s.Held + s.Coming
		}
	}
	return sum
}
