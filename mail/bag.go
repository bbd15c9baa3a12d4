package mail

import "slices"

// bag is a row of things of one kind, in the order in which they were put into it.
type bag[T any] struct {
	things []T
}

// put lays a thing behind all others.
func (b *bag[T]) put(thing T) { b.things = append(b.things, thing) }

// at is the i-th thing, if there is one: no number is too great or too small to ask for.
func (b *bag[T]) at(i int) (T, bool) {
	if i < 0 || i >= len(b.things) {
		var nothing T
		return nothing, false
	}
	return b.things[i], true
}

// take takes the i-th thing out, if there is one. Delete empties the place that falls free: what is gone is not kept there.
func (b *bag[T]) take(i int) (T, bool) {
	thing, ok := b.at(i)
	if ok {
		b.things = slices.Delete(b.things, i, i+1)
	}
	return thing, ok
}

// all is a list of its own: whoever gets it may do with it as he likes.
func (b *bag[T]) all() []T {
	list := make([]T, len(b.things))
	copy(list, b.things)
	return list
}

// count is how many things there are.
func (b *bag[T]) count() int { return len(b.things) }
