// Package queue: things that stand in an order that is given.
package queue

import (
	"iter"
	"slices"
)

// Queue is things in an order of its own.
type Queue[T comparable] struct {
	ahead  func(a, b T) bool
	things []T
}

// New gives an empty queue; ahead tells whether a comes ahead of b.
func New[T comparable](ahead func(a, b T) bool) *Queue[T] {
	return &Queue[T]{ahead: ahead}
}

// Add lets a thing stand where the order wants it, behind its equals.
func (q *Queue[T]) Add(thing T) {
	at := len(q.things)
	for at > 0 && q.ahead(thing, q.things[at-1]) {
		at--
	}
	q.things = slices.Insert(q.things, at, thing)
}

// First tells the thing that all others stand behind, if there is any.
func (q *Queue[T]) First() (T, bool) {
	if len(q.things) == 0 {
		var none T
		return none, false
	}
	return q.things[0], true
}

// Remove takes a thing out, if it is there.
func (q *Queue[T]) Remove(thing T) {
	if at := slices.Index(q.things, thing); at >= 0 {
		q.things = slices.Delete(q.things, at, at+1)
	}
}

// All goes through the things, in order.
func (q *Queue[T]) All() iter.Seq[T] { return slices.Values(q.things) }
