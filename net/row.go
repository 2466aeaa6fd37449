package net

import (
	"iter"
	"slices"
)

// marked is a thing of a row, and whether it bears the mark.
type marked[T any] struct {
	thing T
	mark  bool
}

// row is things in the order in which they were added. A mark goes with its thing.
type row[T any] struct {
	things []marked[T]
}

func (r *row[T]) size() int {
	return len(r.things)
}

// add puts a thing behind all others, without a mark.
func (r *row[T]) add(thing T) {
	r.things = append(r.things, marked[T]{thing: thing})
}

// at gives the k-th thing, which must be there, and whether it is marked.
func (r *row[T]) at(k int) (T, bool) {
	return r.things[k].thing, r.things[k].mark
}

// take gives the k-th thing, which must be there, and takes it out.
func (r *row[T]) take(k int) T {
	x := r.things[k]
	r.things = slices.Delete(r.things, k, k+1)
	return x.thing
}

// drop takes out all things that go, and tells how many they were.
func (r *row[T]) drop(goes func(T) bool) int {
	had := len(r.things)
	r.things = slices.DeleteFunc(r.things, func(x marked[T]) bool { return goes(x.thing) })
	return had - len(r.things)
}

// mark marks the k-th thing, which must be there.
func (r *row[T]) mark(k int) {
	r.things[k].mark = true
}

// unmark takes all marks away, and tells how many there were.
func (r *row[T]) unmark() int {
	n := 0
	for k := range r.things {
		if r.things[k].mark {
			r.things[k].mark = false
			n++
		}
	}
	return n
}

// first tells the place of the first thing without a mark.
func (r *row[T]) first() (int, bool) {
	for k, x := range r.things {
		if !x.mark {
			return k, true
		}
	}
	return 0, false
}

// all goes over the things that are there when it is called, whatever becomes of the row meanwhile.
func (r *row[T]) all() iter.Seq2[int, T] {
	there := slices.Clone(r.things)
	return func(yield func(int, T) bool) {
		for k, x := range there {
			if !yield(k, x.thing) {
				return
			}
		}
	}
}
