package cells

import (
	"cmp"
	"container/heap"
	"iter"
	"slices"
	"strings"

	"tessera/api"
)

// Cmp is how a stands to b: -1 ahead of it, 0 of the same key and time, 1 behind it.
func Cmp(a, b api.Cell) int {
	if byKey := strings.Compare(a.Key, b.Key); byKey != 0 {
		return byKey
	}
	return cmp.Compare(b.Time, a.Time)
}

// Merge goes over the cells of all of these, in order; of those with one key and one time
// over that of the first of the list alone.
func Merge(l ...iter.Seq[api.Cell]) iter.Seq[api.Cell] {
	list := slices.Clone(l) // the caller may change its own one ahead of the going over
	return func(yield func(api.Cell) bool) {
		var all streams
		for place, told := range list {
			if told == nil {
				continue
			}
			next, stop := iter.Pull(told)
			defer stop()
			all.take(&stream{place: place, next: next})
		}
		all.tell(yield)
	}
}

// stream is an iterator of which the cell that comes next was asked for.
type stream struct {
	cell  api.Cell
	place int // in the list
	next  func() (api.Cell, bool)
}

// streams is a heap of those that have a cell: on top the one whose cell comes first.
type streams []*stream

func (s streams) Len() int { return len(s) }

func (s streams) Less(i, j int) bool {
	return cmp.Or(Cmp(s[i].cell, s[j].cell), cmp.Compare(s[i].place, s[j].place)) < 0
}

func (s streams) Swap(i, j int) { s[i], s[j] = s[j], s[i] }

func (s *streams) Push(x any) { *s = append(*s, x.(*stream)) }

func (s *streams) Pop() any {
	last := len(*s) - 1
	x := (*s)[last]
	*s = (*s)[:last]
	return x
}

// take asks a stream for its next cell; one that has none more is left out.
func (s *streams) take(one *stream) {
	cell, more := one.next()
	if more {
		one.cell = cell
		heap.Push(s, one)
	}
}

// tell tells the cells of all streams. A stream is asked for more only behind its cell's
// telling, so that one that is left early is asked for no more than was told.
func (s *streams) tell(yield func(api.Cell) bool) {
	var last api.Cell
	for first := true; s.Len() > 0; first = false {
		one := heap.Pop(s).(*stream)
		if (first || Cmp(one.cell, last) != 0) && !yield(one.cell) {
			return
		}
		last = one.cell
		s.take(one)
	}
}
