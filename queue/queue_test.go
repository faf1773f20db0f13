package queue_test

import (
	"slices"
	"testing"

	"mercat/queue"
)

type thing struct {
	rank int
	name string
}

func lesser(a, b thing) bool { return a.rank < b.rank }

func greater(a, b int) bool { return a > b }

func expectThings[T comparable](t *testing.T, q *queue.Queue[T], want ...T) {
	t.Helper()
	if got := slices.Collect(q.All()); !slices.Equal(got, want) {
		t.Errorf("All = %v, want %v", got, want)
	}
	first, ok := q.First()
	if ok != (len(want) > 0) || ok && first != want[0] {
		t.Errorf("First = %v, %v, want the first of %v", first, ok, want)
	}
}

func TestThingsStandInTheOrderGiven(t *testing.T) {
	numbers := queue.New(greater)
	expectThings(t, numbers)
	for _, n := range []int{5, -7, 9, 0, 6, 5} {
		numbers.Add(n)
	}
	expectThings(t, numbers, 9, 6, 5, 5, 0, -7)
	upward := queue.New(func(a, b int) bool { return a < b })
	for _, n := range []int{5, -7, 9, 0} {
		upward.Add(n)
	}
	expectThings(t, upward, -7, 0, 5, 9)
}

func TestEqualsStandAsTheyCame(t *testing.T) {
	q := queue.New(lesser)
	for _, x := range []thing{{2, "a"}, {1, "b"}, {2, "c"}, {1, "d"}, {2, "e"}, {3, "f"}} {
		q.Add(x)
	}
	expectThings(t, q, thing{1, "b"}, thing{1, "d"}, thing{2, "a"}, thing{2, "c"}, thing{2, "e"}, thing{3, "f"})
}

func TestRemove(t *testing.T) {
	q := queue.New(greater)
	q.Remove(1)
	expectThings(t, q)
	for _, n := range []int{1, 2, 3, 4} {
		q.Add(n)
	}
	q.Remove(5)
	q.Remove(3)
	expectThings(t, q, 4, 2, 1)
	q.Remove(4)
	expectThings(t, q, 2, 1)
	q.Add(3)
	q.Remove(1)
	expectThings(t, q, 3, 2)
	q.Remove(2)
	q.Remove(3)
	expectThings(t, q)
	if first, ok := q.First(); first != 0 || ok {
		t.Errorf("First of none = %d, %v", first, ok)
	}
}

func TestQueuesStandAlone(t *testing.T) {
	a, b := queue.New(greater), queue.New(greater)
	a.Add(1)
	b.Add(2)
	expectThings(t, a, 1)
	expectThings(t, b, 2)
}
