package wheel

import "container/heap"

// heaps is what a wheel asks of what its timers stand in.
type heaps[T any] interface {
	// Len answers how many there are.
	Len() int
	// put lets t stand in it, in the place of what has its key.
	put(t T)
	// drop takes away what has that key; false: nothing has.
	drop(key int) bool
	// find answers what has that key; false: nothing has.
	find(key int) (T, bool)
	// first answers what comes before all others; false: there is nothing.
	first() (T, bool)
}

// item is what can stand in a heap: its key is no other one's there, and of two one comes before the other.
type item[T any] interface {
	key() int
	before(other T) bool
}

// heapOf is a heap by container/heap's rules, which finds what stands in it by its key, too: what is put anew, or dropped, leaves nothing behind. Wheels have it by a pointer: copies of one would move each other's items away from their places.
type heapOf[T item[T]] struct {
	items  []T
	places map[int]int // by key: where in items
}

func (h *heapOf[T]) put(t T) {
	i, ok := h.places[t.key()]
	if !ok {
		heap.Push(h, t)
		return
	}
	h.items[i] = t
	heap.Fix(h, i)
}

func (h *heapOf[T]) drop(key int) bool {
	i, ok := h.places[key]
	if ok {
		heap.Remove(h, i)
	}
	return ok
}

func (h *heapOf[T]) find(key int) (T, bool) {
	i, ok := h.places[key]
	if !ok {
		var none T
		return none, false
	}
	return h.items[i], true
}

func (h *heapOf[T]) first() (T, bool) {
	if h.Len() == 0 {
		var none T
		return none, false
	}
	return h.items[0], true
}

// Len is container/heap's.
func (h *heapOf[T]) Len() int { return len(h.items) }

// Less is container/heap's.
func (h *heapOf[T]) Less(i, j int) bool { return h.items[i].before(h.items[j]) }

// Swap is container/heap's.
func (h *heapOf[T]) Swap(i, j int) {
	h.items[i], h.items[j] = h.items[j], h.items[i]
	h.places[h.items[i].key()] = i
	h.places[h.items[j].key()] = j
}

// Push is container/heap's: it puts x behind all, from where it is moved up. Only put has it called, so x is a T.
func (h *heapOf[T]) Push(x any) {
	t := x.(T)
	if h.places == nil {
		h.places = make(map[int]int)
	}
	h.places[t.key()] = h.Len()
	h.items = append(h.items, t)
}

// Pop is container/heap's: it takes the last one out, which was moved down there.
func (h *heapOf[T]) Pop() any {
	last := h.Len() - 1
	t := h.items[last]
	clear(h.items[last:]) // else what t points to would stay
	h.items = h.items[:last]
	delete(h.places, t.key())
	return t
}
