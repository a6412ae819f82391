package timer

import (
	"container/heap"

	"headcount/api"
)

// row is timers that are held against each other, and change places.
type row []api.Timer

func (r row) Len() int           { return len(r) }
func (r row) Less(i, j int) bool { return ahead(r[i], r[j]) }
func (r row) Swap(i, j int)      { r[i], r[j] = r[j], r[i] }

// queue is a heap of timers: its row tells which one is ahead, and it adds what a heap grows and shrinks by.
type queue struct{ row }

func (q *queue) Push(x any) { q.row = append(q.row, x.(api.Timer)) }

func (q *queue) Pop() any {
	last := q.Len() - 1
	t := q.row[last]
	q.row = q.row[:last]
	return t
}

// put brings t to its place among any others.
func (q *queue) put(t api.Timer) { heap.Push(q, t) }

// lay leaves t behind all others. Timers that come in order are a heap as they lie.
func (q *queue) lay(t api.Timer) { q.Push(t) }

// filled is a queue of the timers of l, each brought in by enter.
func filled(enter func(q *queue, t api.Timer), l []api.Timer) *queue {
	q := &queue{}
	for _, t := range l {
		enter(q, t)
	}
	return q
}

// emptied is all timers of the queue in order, in new memory.
func (q *queue) emptied() []api.Timer {
	var out []api.Timer
	for q.Len() > 0 {
		out = append(out, heap.Pop(q).(api.Timer))
	}
	return out
}
