package mercat

import "mercat/api"

// load is a trader's pieces that are under way to a hall, till the time due.
type load struct {
	trader, to, good, pieces, due int
}

// Ship sends goods to another hall (P11).
func (m *Market) Ship(trader, from, to, good, pieces int) api.Errno {
	switch {
	case !m.hasTrader(trader):
		return api.ErrTrader
	case !m.hasHall(from), !m.hasHall(to), from == to:
		return api.ErrHall
	case !m.hasGood(good):
		return api.ErrGood
	case !within(pieces, 1, api.MaxQty):
		return api.ErrNumber
	case m.accounts[trader].pieces[from][good] < pieces:
		return api.ErrStock
	case len(m.loads) >= api.MaxLoads:
		return api.ErrFull
	}
	m.accounts[trader].pieces[from][good] -= pieces
	due := m.time + api.Way*distance(from, to)
	m.loads = append(m.loads, load{trader, to, good, pieces, due})
	return api.OK
}

// Tick lets time go on (P11).
func (m *Market) Tick() api.Errno {
	if m == nil || m.time >= api.MaxTime {
		return api.ErrFull
	}
	m.time++
	m.land()
	return api.OK
}

// land frees what has come, and keeps the loads that are still under way.
func (m *Market) land() {
	left := m.loads[:0]
	for _, l := range m.loads {
		if l.due > m.time {
			left = append(left, l)
			continue
		}
		m.accounts[l.trader].pieces[l.to][l.good] += l.pieces
	}
	m.loads = left
}

func distance(from, to int) int { return max(from, to) - min(from, to) }
