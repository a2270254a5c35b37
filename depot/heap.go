package depot

// ranked is what a heap can order.
type ranked[T any] interface{ isBefore(other T) bool }

// heap gives out the first one of its elements. No element is before its parent, which for that of the index i has the index (i - 1) / 2.
type heap[T ranked[T]] struct{ elements []T }

// isEmpty reports whether there are no elements.
func (h *heap[T]) isEmpty() bool { return len(h.elements) == 0 }

// push adds an element.
func (h *heap[T]) push(x T) {
	h.elements = append(h.elements, x)
	at := len(h.elements) - 1
	for at > 0 {
		parent := (at - 1) / 2
		if !h.swapIfBefore(at, parent) {
			return
		}
		at = parent
	}
}

// pop takes out an element before which there is none. The heap has to have one.
func (h *heap[T]) pop() T {
	first, last := h.elements[0], len(h.elements)-1
	h.elements[0] = h.elements[last]
	h.elements = h.elements[:last]
	for at := 0; 2*at+1 < last; {
		child := 2*at + 1
		if child+1 < last && h.elements[child+1].isBefore(h.elements[child]) {
			child++
		}
		if !h.swapIfBefore(child, at) {
			break
		}
		at = child
	}
	return first
}

// swapIfBefore swaps an element and its parent if it is before it, and reports whether it was.
func (h *heap[T]) swapIfBefore(child, parent int) bool {
	l := h.elements
	if !l[child].isBefore(l[parent]) {
		return false
	}
	l[child], l[parent] = l[parent], l[child]
	return true
}
