// Package order puts things behind what they need.
package order

import (
	"container/heap"
	"sort"
)

// Behind is the numbers of needs, each behind all those that it needs; of the numbers that could stand next the smallest one. What needs itself, and what needs such, is left off.
func Behind(needs [][]int) []int {
	users := make([][]int, len(needs))
	waits := make([]int, len(needs)) // for how many each one
	ready := &smallest{}
	for i, l := range needs {
		for _, j := range l {
			users[j] = append(users[j], i)
		}
		if waits[i] = len(l); len(l) == 0 {
			heap.Push(ready, i)
		}
	}
	var behind []int
	for ready.Len() > 0 {
		i := heap.Pop(ready).(int)
		behind = append(behind, i)
		for _, j := range users[i] {
			if waits[j]--; waits[j] == 0 {
				heap.Push(ready, j)
			}
		}
	}
	return behind
}

// smallest is a heap of numbers.
type smallest struct{ sort.IntSlice }

// Push is for the heap.
func (s *smallest) Push(x any) { s.IntSlice = append(s.IntSlice, x.(int)) }

// Pop is for the heap.
func (s *smallest) Pop() any {
	last := len(s.IntSlice) - 1
	x := s.IntSlice[last]
	s.IntSlice = s.IntSlice[:last]
	return x
}
