package mercat_test

import (
	"fmt"
	"maps"
	"slices"
	"testing"

	"mercat/api"
	"mercat/mercat"
)

// lot is a place where pieces of a trader's lie.
type lot struct{ trader, hall, good int }

// model is a market told a second time, as plainly as the document: all that
// waits in one list, and what is held in numbers of its own.
type model struct {
	rates            []int
	money, heldMoney map[int]int
	pieces, held     map[lot]int
	waits            []api.Order
	stats            map[[2]int][3]int // last price, pieces, amount
	house, numbers   int
}

func newModel(rates []int) *model {
	return &model{
		rates: rates, money: map[int]int{}, heldMoney: map[int]int{},
		pieces: map[lot]int{}, held: map[lot]int{}, stats: map[[2]int][3]int{},
	}
}

// fits tells whether an order that waits is one that o meets, or would, were it not its own trader's.
func (d *model) fits(o, w api.Order) bool {
	if o.Hall != w.Hall || o.Good != w.Good || o.Side == w.Side {
		return false
	}
	return o.Side == api.Buy && o.Price >= w.Price || o.Side == api.Sell && o.Price <= w.Price
}

// best is where the first one stands that fits, or -1.
func (d *model) best(o api.Order) int {
	best := -1
	for i, w := range d.waits {
		if !d.fits(o, w) {
			continue
		}
		if best < 0 || w.Side == api.Sell && w.Price < d.waits[best].Price || w.Side == api.Buy && w.Price > d.waits[best].Price {
			best = i
		}
	}
	return best
}

func (d *model) refusal(o api.Order) api.Errno {
	met := 0
	for _, w := range d.waits {
		if d.fits(o, w) && w.Trader != o.Trader {
			met += w.Qty
		}
	}
	amount := o.Price * o.Qty
	switch {
	case len(d.waits) == 60:
		return api.ErrFull
	case o.Side == api.Buy && d.money[o.Trader] < amount+amount*d.rates[o.Hall]/10000:
		return api.ErrMoney
	case o.Side == api.Sell && d.pieces[lot{o.Trader, o.Hall, o.Good}] < o.Qty:
		return api.ErrStock
	case o.How == api.Post && met > 0:
		return api.ErrCross
	case o.How == api.Whole && met < o.Qty:
		return api.ErrShort
	}
	return api.OK
}

// place does what P7 says with an order whose numbers are right.
func (d *model) place(o api.Order) (int, []api.Trade, api.Errno) {
	if e := d.refusal(o); e != api.OK {
		return 0, nil, e
	}
	d.numbers++
	o.Id = d.numbers
	var trades []api.Trade
	for o.Qty > 0 {
		at := d.best(o)
		if at < 0 {
			break
		}
		if w := d.waits[at]; w.Trader == o.Trader {
			d.hold(w, -w.Qty)
		} else {
			trades = append(trades, d.trade(&o, at))
			if d.waits[at].Qty > 0 {
				continue
			}
		}
		d.waits = slices.Delete(d.waits, at, at+1)
	}
	if o.Qty > 0 && o.How != api.Now {
		d.hold(o, o.Qty)
		d.waits = append(d.waits, o)
	}
	return o.Id, trades, api.OK
}

// find is where an order of a trader's stands, or -1.
func (d *model) find(trader, id int) int {
	return slices.IndexFunc(d.waits, func(w api.Order) bool { return w.Trader == trader && w.Id == id })
}

// cancel does what P8 says.
func (d *model) cancel(trader, id int) api.Errno {
	at := d.find(trader, id)
	if at < 0 {
		return api.ErrOrder
	}
	d.hold(d.waits[at], -d.waits[at].Qty)
	d.waits = slices.Delete(d.waits, at, at+1)
	return api.OK
}

// copy is a model that stands alone: the state to go back to.
func (d *model) copy() *model {
	c := *d
	c.money, c.heldMoney, c.pieces, c.held = maps.Clone(d.money), maps.Clone(d.heldMoney), maps.Clone(d.pieces), maps.Clone(d.held)
	c.stats, c.waits = maps.Clone(d.stats), slices.Clone(d.waits)
	return &c
}

// change does what P9 says with numbers that are right.
func (d *model) change(trader, id, price, qty int) (int, []api.Trade, api.Errno) {
	at := d.find(trader, id)
	if at < 0 {
		return 0, nil, api.ErrOrder
	}
	w := d.waits[at]
	if price == w.Price && qty <= w.Qty {
		d.hold(w, qty-w.Qty)
		d.waits[at].Qty = qty
		return id, nil, api.OK
	}
	before := d.copy()
	d.cancel(trader, id)
	w.Price, w.Qty, w.How = price, qty, api.Wait
	number, trades, e := d.place(w)
	if e != api.OK {
		*d = *before
	}
	return number, trades, e
}

// hold moves what so many pieces of an order want from what is free to what is held.
func (d *model) hold(o api.Order, qty int) {
	if o.Side == api.Buy {
		d.money[o.Trader] -= o.Price * qty
		d.heldMoney[o.Trader] += o.Price * qty
		return
	}
	d.pieces[lot{o.Trader, o.Hall, o.Good}] -= qty
	d.held[lot{o.Trader, o.Hall, o.Good}] += qty
}

func (d *model) trade(o *api.Order, at int) api.Trade {
	w := &d.waits[at]
	qty := min(o.Qty, w.Qty)
	amount := w.Price * qty
	fee := amount * d.rates[o.Hall] / 10000
	came, waited := lot{o.Trader, o.Hall, o.Good}, lot{w.Trader, o.Hall, o.Good}
	if o.Side == api.Buy {
		d.money[o.Trader] -= amount + fee
		d.pieces[came] += qty
		d.held[waited] -= qty
		d.money[w.Trader] += amount
	} else {
		d.pieces[came] -= qty
		d.money[o.Trader] += amount - fee
		d.heldMoney[w.Trader] -= amount
		d.pieces[waited] += qty
	}
	d.house += fee
	o.Qty -= qty
	w.Qty -= qty
	s := d.stats[[2]int{o.Hall, o.Good}]
	d.stats[[2]int{o.Hall, o.Good}] = [3]int{w.Price, s[1] + qty, s[2] + amount}
	return api.Trade{Taker: o.Id, Maker: w.Id, With: w.Trader, Price: w.Price, Qty: qty, Fee: fee}
}

const (
	modelTraders = 4
	modelGoods   = 2
)

func TestPlaceIsAsTheModelSays(t *testing.T) {
	seen := map[api.Errno]int{}
	for seed := range uint32(40) {
		rates := []int{100, int(seed * 2), 0}
		m, d := newMarket(t, modelTraders, modelGoods, rates...), newModel(rates)
		next := drawn(seed)
		for range 300 {
			give(t, m, d, next)
			o := drawnOrder(next, len(rates))
			if seed%4 == 0 { // so that many come to wait
				o.Price += 15 * o.Side
			}
			seen[comparePlace(t, m, d, o)]++
			compareAll(t, m, d)
			if t.Failed() {
				t.Fatalf("seed %d, %+v", seed, o)
			}
		}
	}
	for _, e := range []api.Errno{api.OK, api.ErrFull, api.ErrMoney, api.ErrStock, api.ErrCross, api.ErrShort} {
		if seen[e] < 50 {
			t.Errorf("the answer %d came %d times: too few to tell anything", e, seen[e])
		}
	}
}

// drawn gives numbers below the one asked for, the same ones in every run.
func drawn(seed uint32) func(below int) int {
	return func(below int) int {
		seed = seed*1664525 + 1013904223
		return int(seed>>8) % below
	}
}

func drawnOrder(next func(int) int, halls int) api.Order {
	return api.Order{Id: next(5), Trader: next(modelTraders), Hall: next(halls), Good: next(modelGoods),
		Side: next(2), Price: 90 + next(20), Qty: 1 + next(30), How: []int{api.Wait, api.Wait, api.Wait, api.Now, api.Whole, api.Post}[next(6)]}
}

func TestCancelAndChangeAreAsTheModelSays(t *testing.T) {
	seen := map[string]int{}
	for seed := range uint32(40) {
		rates := []int{100, int(seed * 2), 0}
		m, d := newMarket(t, modelTraders, modelGoods, rates...), newModel(rates)
		next := drawn(seed + 1000)
		for range 400 {
			give(t, m, d, next)
			gap := 10 * int(seed%3) // between the sides; where it is wide many come to wait
			switch next(8) {
			case 0:
				trader, id := drawnNumber(d, next)
				e := d.cancel(trader, id)
				expect(t, "P8: Cancel", m.Cancel(trader, id), e)
				seen[fmt.Sprint("Cancel ", e)]++
			case 1, 2, 3:
				seen[compareChange(t, m, d, next, gap)]++
			default:
				o := drawnOrder(next, len(rates))
				o.Price += gap * o.Side
				comparePlace(t, m, d, o)
			}
			compareAll(t, m, d)
			if t.Failed() {
				t.Fatalf("seed %d", seed)
			}
		}
	}
	for _, what := range []string{"Cancel 0", "Cancel 9", "lessened", "placed anew", "traded", "Change 6", "Change 7", "Change 9", "Change at the most orders"} {
		if seen[what] < 50 {
			t.Errorf("%s came %d times: too few to tell anything", what, seen[what])
		}
	}
}

// drawnNumber is a trader and a number, most times of an order of his that waits.
func drawnNumber(d *model, next func(int) int) (trader, id int) {
	if len(d.waits) == 0 || next(5) == 0 {
		return next(modelTraders), next(d.numbers + 2)
	}
	w := d.waits[next(len(d.waits))]
	return w.Trader, w.Id
}

// compareChange changes an order in both, and gives a name to what came of it.
func compareChange(t *testing.T, m *mercat.Market, d *model, next func(int) int, gap int) string {
	t.Helper()
	trader, id := drawnNumber(d, next)
	price, qty := 90+next(20), 1+next(30)
	if at := d.find(trader, id); at >= 0 {
		price += gap * d.waits[at].Side
		if next(2) == 0 {
			price = d.waits[at].Price
		}
	}
	if next(8) == 0 {
		qty *= 20 // so that it can't be had
	}
	full := len(d.waits) == api.MaxOrders
	wantNumber, wantTrades, wantE := d.change(trader, id, price, qty)
	number, trades, e := m.Change(trader, id, price, qty)
	if number != wantNumber || e != wantE || !slices.Equal(trades, wantTrades) {
		t.Errorf("P9: Change(%d, %d, %d, %d) = %d, %+v, %d, want %d, %+v, %d", trader, id, price, qty, number, trades, e, wantNumber, wantTrades, wantE)
	}
	switch {
	case full:
		return "Change at the most orders"
	case e != api.OK:
		return fmt.Sprint("Change ", e)
	case number == id:
		return "lessened"
	case len(trades) > 0:
		return "traded"
	}
	return "placed anew"
}

// give lets a trader have a little more, now and then.
func give(t *testing.T, m *mercat.Market, d *model, next func(int) int) {
	t.Helper()
	trader, hall, good := next(modelTraders), next(len(d.rates)), next(modelGoods)
	switch next(3) {
	case 0:
		expect(t, "Pay", m.Pay(trader, 2000), api.OK)
		d.money[trader] += 2000
	case 1:
		expect(t, "Bring", m.Bring(trader, hall, good, 20), api.OK)
		d.pieces[lot{trader, hall, good}] += 20
	}
}

func comparePlace(t *testing.T, m *mercat.Market, d *model, o api.Order) api.Errno {
	t.Helper()
	number, trades, e := m.Place(o)
	wantNumber, wantTrades, wantE := d.place(o)
	if number != wantNumber || e != wantE || !slices.Equal(trades, wantTrades) {
		t.Errorf("P7: Place(%+v) = %d, %+v, %d, want %d, %+v, %d", o, number, trades, e, wantNumber, wantTrades, wantE)
	}
	return e
}

// compareAll holds all that a market tells against the model.
func compareAll(t *testing.T, m *mercat.Market, d *model) {
	t.Helper()
	expectHouse(t, m, d.house)
	for trader := range modelTraders {
		var goods []api.Stock
		var orders []api.Order
		for hall := range d.rates {
			for good := range modelGoods {
				at := lot{trader, hall, good}
				if d.pieces[at] != 0 || d.held[at] != 0 {
					goods = append(goods, api.Stock{Hall: hall, Good: good, Free: d.pieces[at], Held: d.held[at]})
				}
			}
		}
		for _, w := range d.waits {
			if w.Trader == trader {
				orders = append(orders, w)
			}
		}
		expectHeld(t, m, trader, d.money[trader], d.heldMoney[trader], goods...)
		expectOrders(t, m, trader, orders...)
	}
	for hall := range d.rates {
		for good := range modelGoods {
			s := d.stats[[2]int{hall, good}]
			want := api.Stat{Last: s[0], Pieces: s[1]}
			if s[1] > 0 {
				want.Mean = float64(s[2]) / float64(s[1])
			}
			expectStat(t, m, hall, good, want)
			expectBook(t, m, hall, good, d.levels(hall, good, api.Buy), d.levels(hall, good, api.Sell))
		}
	}
}

func (d *model) levels(hall, good, side int) []api.Level {
	byPrice := map[int]api.Level{}
	for _, w := range d.waits {
		if w.Hall == hall && w.Good == good && w.Side == side {
			l := byPrice[w.Price]
			byPrice[w.Price] = api.Level{Price: w.Price, Qty: l.Qty + w.Qty, Orders: l.Orders + 1}
		}
	}
	var all []api.Level
	for _, l := range byPrice {
		all = append(all, l)
	}
	slices.SortFunc(all, func(a, b api.Level) int {
		if side == api.Buy {
			return b.Price - a.Price
		}
		return a.Price - b.Price
	})
	return all
}

func TestOrdersMakeAndLoseNothing(t *testing.T) {
	const traders, money, pieces = 5, 5000, 60
	m := stocked(t, traders, 2, money, pieces, 100, 30)
	next := drawn(7)
	placed := 0
	for range 4000 {
		id, _, _ := m.Place(api.Order{Trader: next(traders), Hall: next(2), Good: next(2), Side: next(2), Price: 95 + next(11), Qty: 1 + next(9), How: next(4)})
		placed = max(placed, id)
		switch next(3) {
		case 0:
			m.Cancel(next(traders), 1+max(0, placed-next(60)))
		case 1:
			id, _, _ = m.Change(next(traders), 1+max(0, placed-next(60)), 95+next(11), 1+next(9))
			placed = max(placed, id)
		}
		if next(3) == 0 {
			from := next(2)
			m.Ship(next(traders), from, 1-from, next(2), 1+next(5))
			m.Tick()
		}
		expectWhole(t, m, traders, traders*money, traders*2*pieces)
		for trader := range traders {
			expectHeldByOrders(t, m, trader)
		}
		expectNoneMeet(t, m, traders)
		if t.Failed() {
			t.FailNow()
		}
	}
}

// expectWhole wants all money, and all pieces of both goods, to be so much.
func expectWhole(t *testing.T, m *mercat.Market, traders, money, pieces int) {
	t.Helper()
	sum, goods := m.House(), [2]int{}
	for trader := range traders {
		a, _ := m.Account(trader)
		sum += a.Free + a.Held
		if a.Free < 0 || a.Held < 0 {
			t.Errorf("P12: trader %d has %+v", trader, a)
		}
		for _, s := range a.Goods {
			goods[s.Good] += s.Free + s.Held + s.Coming
			if s.Free < 0 || s.Held < 0 || s.Coming < 0 {
				t.Errorf("P12: trader %d has %+v", trader, s)
			}
		}
	}
	if sum != money || goods != [2]int{pieces, pieces} {
		t.Errorf("P12: there are %d of money and %v pieces, want %d and %d", sum, goods, money, pieces)
	}
}

func expectHeldByOrders(t *testing.T, m *mercat.Market, trader int) {
	t.Helper()
	a, _ := m.Account(trader)
	orders, _ := m.Orders(trader)
	for _, s := range a.Goods {
		held := 0
		for _, o := range orders {
			if o.Side == api.Sell && o.Hall == s.Hall && o.Good == s.Good {
				held += o.Qty
			}
		}
		if held != s.Held {
			t.Errorf("P12: of %+v the orders of trader %d want %d", s, trader, held)
		}
	}
	for _, o := range orders {
		if o.Side == api.Buy {
			a.Held -= o.Price * o.Qty
		}
	}
	if a.Held != 0 {
		t.Errorf("P12: trader %d has %d held beyond what the orders want", trader, a.Held)
	}
}

func expectNoneMeet(t *testing.T, m *mercat.Market, traders int) {
	t.Helper()
	var all []api.Order
	for trader := range traders {
		orders, _ := m.Orders(trader)
		all = append(all, orders...)
	}
	for _, b := range all {
		for _, s := range all {
			if b.Side == api.Buy && s.Side == api.Sell && b.Hall == s.Hall && b.Good == s.Good && b.Trader != s.Trader && b.Price >= s.Price {
				t.Errorf("P12: %+v and %+v wait and meet", b, s)
			}
		}
	}
}
