package runs_test

import (
	"math/big"
	"slices"

	"foyer/api"
)

// This file has the words of the chapter, in the plainest way: neighbours are searched among all places, and the difference of their numbers is computed with big numbers.

func modelSeat(p api.Place) bool { return p.Row >= 0 }

// modelOrdered compares every two seats.
func modelOrdered(l []api.Place) bool {
	for j := range l {
		for i := range j {
			if modelSeat(l[i]) && modelSeat(l[j]) && !modelBefore(l[i], l[j]) {
				return false
			}
		}
	}
	return true
}

func modelBefore(a, b api.Place) bool {
	if a.Level != b.Level {
		return a.Level < b.Level
	}
	if a.Block != b.Block {
		return a.Block < b.Block
	}
	if a.Row != b.Row {
		return a.Row < b.Row
	}
	return a.Seat < b.Seat
}

func modelCompare(a, b api.Place) int {
	switch {
	case modelBefore(a, b):
		return -1
	case modelBefore(b, a):
		return 1
	}
	return 0
}

func modelNeighbours(a, b api.Place) bool {
	if !modelSeat(a) || !modelSeat(b) || a.Level != b.Level || a.Block != b.Block || a.Row != b.Row {
		return false
	}
	difference := new(big.Int).Sub(big.NewInt(int64(a.Seat)), big.NewInt(int64(b.Seat)))
	return difference.CmpAbs(big.NewInt(1)) == 0
}

// modelFree returns the runs: each begins at a free seat without a free neighbour before it, and goes on to the neighbours after it.
func modelFree(l []api.Place, taken []bool) [][]int {
	if !modelOrdered(l) {
		return nil
	}
	var runs [][]int
	for i := range l {
		if modelFreeSeat(l, taken, i) && modelFreeNeighbour(l, taken, i, 0, i) < 0 {
			var run []int
			for j := i; j >= 0; j = modelFreeNeighbour(l, taken, j, j+1, len(l)) {
				run = append(run, j)
			}
			runs = append(runs, run)
		}
	}
	return runs
}

func modelFreeSeat(l []api.Place, taken []bool, i int) bool {
	for j, t := range taken {
		if j == i && t {
			return false
		}
	}
	return modelSeat(l[i])
}

// modelFreeNeighbour returns the first free neighbour of a place among the indices from one to before another; -1 if there is none.
func modelFreeNeighbour(l []api.Place, taken []bool, i, from, to int) int {
	for j := from; j < to; j++ {
		if modelFreeSeat(l, taken, j) && modelNeighbours(l[i], l[j]) {
			return j
		}
	}
	return -1
}

func modelTogether(l []api.Place, chosen []int) bool {
	if !modelOrdered(l) || len(chosen) == 0 {
		return false
	}
	for i, c := range chosen {
		if c < 0 || c >= len(l) || slices.Contains(chosen[:i], c) {
			return false
		}
	}
	return len(chosen) == 1 || modelOneArea(l, chosen) || modelOneRow(l, chosen)
}

func modelOneArea(l []api.Place, chosen []int) bool {
	for _, c := range chosen {
		if modelSeat(l[c]) || l[c].Level != l[chosen[0]].Level || l[c].Block != l[chosen[0]].Block {
			return false
		}
	}
	return true
}

// modelOneRow reports whether all chosen seats can be walked to from the first one, from neighbour to neighbour.
func modelOneRow(l []api.Place, chosen []int) bool {
	reached := []int{chosen[0]}
	for i := 0; i < len(reached); i++ {
		for _, c := range chosen {
			if modelNeighbours(l[reached[i]], l[c]) && !slices.Contains(reached, c) {
				reached = append(reached, c)
			}
		}
	}
	return len(reached) == len(chosen)
}

func modelSingles(l []api.Place, taken []bool, chosen []int) []int {
	if !modelOrdered(l) {
		return nil
	}
	after := modelWith(l, taken, chosen)
	var singles []int
	for i := range l {
		if modelAlone(l, after, i) && !modelAlone(l, taken, i) {
			singles = append(singles, i)
		}
	}
	return singles
}

// modelWith returns which places are taken when the chosen ones are, too.
func modelWith(l []api.Place, taken []bool, chosen []int) []bool {
	after := make([]bool, len(l))
	for i := range l {
		after[i] = i < len(taken) && taken[i] || slices.Contains(chosen, i)
	}
	return after
}

func modelAlone(l []api.Place, taken []bool, i int) bool {
	return modelFreeSeat(l, taken, i) && modelFreeNeighbour(l, taken, i, 0, len(l)) < 0
}
