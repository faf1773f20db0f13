package mercat_test

import (
	"slices"
	"testing"

	"mercat/api"
)

func TestBookPutsPricesTogether(t *testing.T) {
	m := stocked(t, 3, 2, 10000, 100, 0, 0)
	for i, o := range []api.Order{
		buy(0, 5, 1, api.Wait), buy(1, 7, 2, api.Post), buy(2, 5, 4, api.Wait), buy(0, 6, 8, api.Wait), buy(1, 5, 16, api.Wait), buy(0, 7, 32, api.Wait),
		sell(0, 9, 1, api.Wait), sell(1, 8, 2, api.Post), sell(2, 9, 4, api.Wait), sell(0, 10, 8, api.Wait), sell(2, 9, 16, api.Wait), sell(0, 8, 32, api.Wait),
	} {
		o.Hall, o.Good = 1, 1
		expectPlace(t, m, o, i+1)
	}
	expectBook(t, m, 1, 1,
		[]api.Level{{Price: 7, Qty: 34, Orders: 2}, {Price: 6, Qty: 8, Orders: 1}, {Price: 5, Qty: 21, Orders: 3}},
		[]api.Level{{Price: 8, Qty: 34, Orders: 2}, {Price: 9, Qty: 21, Orders: 3}, {Price: 10, Qty: 8, Orders: 1}})
	for _, at := range [][2]int{{0, 0}, {0, 1}, {1, 0}} {
		expectBook(t, m, at[0], at[1], nil, nil)
	}
}

func TestBookAndStatOfNoneAreRefused(t *testing.T) {
	m := stocked(t, 2, 2, 1000, 10, 0, 0, 0)
	expectPlace(t, m, sell(0, 5, 2, api.Wait), 1)
	expectPlace(t, m, buy(1, 5, 1, api.Wait), 2, api.Trade{Taker: 2, Maker: 1, With: 0, Price: 5, Qty: 1})
	refuse := func(hall, good int, want api.Errno) {
		t.Helper()
		if buys, sells, e := m.Book(hall, good); len(buys) != 0 || len(sells) != 0 || e != want {
			t.Errorf("P10: Book(%d, %d) = %v, %v, %d, want %d", hall, good, buys, sells, e, want)
		}
		if stat, e := m.Stat(hall, good); stat != (api.Stat{}) || e != want {
			t.Errorf("P10: Stat(%d, %d) = %v, %d, want %d", hall, good, stat, e, want)
		}
	}
	for _, n := range append([]int{3, api.MaxHalls}, farOff...) {
		refuse(n, 0, api.ErrHall)
		refuse(n, n, api.ErrHall)
		refuse(0, n, api.ErrGood)
	}
	refuse(2, 2, api.ErrGood)
	for _, n := range append([]int{2, api.MaxTraders}, farOff...) {
		if orders, e := m.Orders(n); len(orders) != 0 || e != api.ErrTrader {
			t.Errorf("P10: Orders(%d) = %v, %d", n, orders, e)
		}
	}
}

func TestOrdersAreToldByTheirNumbers(t *testing.T) {
	m := stocked(t, 3, 2, 10000, 100, 0, 0)
	placed := []api.Order{
		{Id: 99, Trader: 1, Hall: 1, Good: 1, Side: api.Sell, Price: 9, Qty: 10, How: api.Post},
		{Id: -1, Trader: 1, Hall: 0, Good: 0, Side: api.Buy, Price: 7, Qty: 9, How: api.Wait},
		{Trader: 1, Hall: 1, Good: 1, Side: api.Sell, Price: 8, Qty: 8, How: api.Wait},
		{Trader: 2, Hall: 0, Good: 1, Side: api.Sell, Price: 8, Qty: 8, How: api.Wait},
		{Trader: 1, Hall: 0, Good: 0, Side: api.Buy, Price: 8, Qty: 7, How: api.Post},
		{Id: 1, Trader: 1, Hall: 1, Good: 0, Side: api.Buy, Price: 8, Qty: 7, How: api.Now},
		{Id: 1 << 62, Trader: 1, Hall: 0, Good: 1, Side: api.Buy, Price: 7, Qty: 6, How: api.Wait},
	}
	for i := range placed {
		expectPlace(t, m, placed[i], i+1)
		placed[i].Id = i + 1
	}
	expectOrders(t, m, 0)
	expectOrders(t, m, 1, placed[0], placed[1], placed[2], placed[4], placed[6])
	expectOrders(t, m, 2, placed[3])
	expectPlace(t, m, sell(0, 7, 11, api.Now), 8,
		api.Trade{Taker: 8, Maker: 5, With: 1, Price: 8, Qty: 7}, api.Trade{Taker: 8, Maker: 2, With: 1, Price: 7, Qty: 4})
	placed[1].Qty = 5
	expectOrders(t, m, 1, placed[0], placed[1], placed[2], placed[6])
	expectOrders(t, m, 0)
}

func TestStatTellsLastPiecesAndMean(t *testing.T) {
	m := stocked(t, 2, 1, 100000, 1000, 0)
	expectStat(t, m, 0, 0, api.Stat{})
	amount, pieces := 0, 0
	for i, p := range [][2]int{{10, 3}, {7, 7}, {100, 1}, {1, 11}, {33, 13}} {
		expectPlace(t, m, sell(0, p[0], p[1], api.Wait), 2*i+1)
		before, _ := m.Stat(0, 0)
		if before.Pieces != pieces {
			t.Errorf("P10: an order that waits changed Stat to %+v", before)
		}
		expectPlace(t, m, buy(1, 200, p[1], api.Now), 2*i+2, api.Trade{Taker: 2*i + 2, Maker: 2*i + 1, With: 0, Price: p[0], Qty: p[1]})
		amount += p[0] * p[1]
		pieces += p[1]
		expectStat(t, m, 0, 0, api.Stat{Last: p[0], Pieces: pieces, Mean: float64(amount) / float64(pieces)})
	}
	expectPlace(t, m, sell(0, 5, 5, api.Wait), 11)
	expectPlace(t, m, buy(0, 5, 5, api.Now), 12) // its own is taken back: that is no trade
	expectStat(t, m, 0, 0, api.Stat{Last: 33, Pieces: 35, Mean: float64(amount) / 35})
}

func TestStatTellsTheLastOfSeveralTrades(t *testing.T) {
	m := stocked(t, 2, 1, 1000, 100, 0)
	expectPlace(t, m, sell(0, 5, 1, api.Wait), 1)
	expectPlace(t, m, sell(0, 6, 2, api.Wait), 2)
	expectPlace(t, m, buy(1, 9, 2, api.Wait), 3,
		api.Trade{Taker: 3, Maker: 1, With: 0, Price: 5, Qty: 1}, api.Trade{Taker: 3, Maker: 2, With: 0, Price: 6, Qty: 1})
	expectStat(t, m, 0, 0, api.Stat{Last: 6, Pieces: 2, Mean: 5.5})
}

func TestBooksAndOrdersAreTheCallers(t *testing.T) {
	m := stocked(t, 2, 1, 1000, 100, 100)
	for i := range 3 {
		expectPlace(t, m, buy(0, 5+i, 1, api.Wait), 2*i+1)
		expectPlace(t, m, sell(0, 10+i, 1, api.Wait), 2*i+2)
	}
	before := picture(m)
	buys, sells, _ := m.Book(0, 0)
	orders, _ := m.Orders(0)
	wantSells, wantOrders := slices.Clone(sells), slices.Clone(orders)
	for i := range buys[:cap(buys)] {
		buys[:cap(buys)][i] = api.Level{Price: -1, Qty: -1, Orders: -1}
	}
	if !slices.Equal(sells, wantSells) {
		t.Errorf("P2: writing into one list of a book changed the other to %v", sells)
	}
	for i := range sells[:cap(sells)] {
		sells[:cap(sells)][i] = api.Level{Price: -1, Qty: -1, Orders: -1}
	}
	if !slices.Equal(orders, wantOrders) {
		t.Errorf("P2: writing into a book changed orders to %v", orders)
	}
	for i := range orders[:cap(orders)] {
		orders[:cap(orders)][i] = api.Order{Id: -1, Trader: 1, Price: -1, Qty: -1}
	}
	if after := picture(m); after != before {
		t.Errorf("P2: writing into what came out changed %s to %s", before, after)
	}
}
