package session

import "tributary/api"

// body is what was sent and is not acknowledged: whether it was out, and how many ticks ago.
type body struct {
	b   []byte
	out bool
	ago int
}

// queue is a ring of bodies, the first of which has the number base.
type queue struct {
	ring  [api.Window]body
	first int
	count int
	base  int
}

// at tells the i-th body of the queue.
func (q *queue) at(i int) *body { return &q.ring[(q.first+i)%len(q.ring)] }

// push puts a body behind the others, if there is room.
func (q *queue) push(b []byte) bool {
	if q.count == len(q.ring) {
		return false
	}
	*q.at(q.count) = body{b: b}
	q.count++
	return true
}

// drop lets those up to a number go, if that is one's of the queue.
func (q *queue) drop(to int) {
	if to < q.base || to >= q.base+q.count {
		return
	}
	n := to - q.base + 1
	for i := range n {
		*q.at(i) = body{}
	}
	q.first, q.count, q.base = (q.first+n)%len(q.ring), q.count-n, to+1
}
