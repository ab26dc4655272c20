package latch

import (
	"container/heap"

	"latch/api"
)

// answer is one, with the number of its request in the order of arrival.
type answer struct {
	number int
	line   int
	data   string
}

func (a answer) send() api.Act {
	return api.Act{Kind: api.Send, Line: a.line, Data: a.data}
}

// answers wait in a heap, the one that arrived first on top.
type answers []answer

func (w answers) Len() int           { return len(w) }
func (w answers) Less(i, j int) bool { return w[i].number < w[j].number }
func (w answers) Swap(i, j int)      { w[i], w[j] = w[j], w[i] }

// Push is for container/heap alone; so is Pop.
func (w *answers) Push(x any) { *w = append(*w, x.(answer)) }

func (w *answers) Pop() any {
	last := len(*w) - 1
	a := (*w)[last]
	*w = (*w)[:last]
	return a
}

func (w *answers) add(a answer) { heap.Push(w, a) }

// sendAll sends what waits, in the order of arrival; then nothing waits.
func (w *answers) sendAll() []api.Act {
	var acts []api.Act
	for w.Len() > 0 {
		acts = append(acts, heap.Pop(w).(answer).send())
	}
	*w = nil
	return acts
}
