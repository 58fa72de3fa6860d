package scope

import "slices"

// stack keeps what lies one within the other, the innermost at its end.
type stack[T any] struct{ items []T }

func (s *stack[T]) push(item T) { s.items = append(s.items, item) }

// pop takes the innermost off; false, if there is none.
func (s *stack[T]) pop() (T, bool) {
	item, has := s.innermost()
	if has {
		last := len(s.items) - 1
		clear(s.items[last:]) // nothing of what has ended is kept
		s.items = s.items[:last]
	}
	return item, has
}

func (s *stack[T]) innermost() (T, bool) {
	if len(s.items) == 0 {
		var zero T
		return zero, false
	}
	return s.items[len(s.items)-1], true
}

// copied tells a stack that shares no memory with this one.
func (s *stack[T]) copied() stack[T] { return stack[T]{slices.Clone(s.items)} }
