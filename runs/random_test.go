package runs_test

import (
	"math"
	"math/rand/v2"
	"slices"
	"testing"

	"foyer/api"
	"foyer/runs"
)

// A scene is a list of places, with those that are taken, and a choice.
type scene struct {
	l      []api.Place
	taken  []bool
	chosen []int
}

// orderedList returns an ordered list of some rows, with places of areas anywhere.
func orderedList(random *rand.Rand) []api.Place {
	var l []api.Place
	for range random.IntN(5) {
		level, block, row, from := random.IntN(2), random.IntN(2), random.IntN(2), 1+random.IntN(3)
		if random.IntN(8) == 0 {
			from = []int{math.MinInt, math.MaxInt - 9, -3}[random.IntN(3)]
		}
		for i := range random.IntN(9) {
			if random.IntN(6) > 0 {
				l = append(l, api.Place{Kind: random.IntN(5), Level: level, Block: block, Row: row, Seat: from + i, With: random.IntN(9) - 1})
			}
		}
	}
	slices.SortFunc(l, modelCompare)
	l = slices.CompactFunc(l, func(a, b api.Place) bool { return modelCompare(a, b) == 0 })
	for range random.IntN(5) {
		stand := api.Place{Kind: api.PlaceStand, Level: random.IntN(2), Block: random.IntN(2), Row: -1 - random.IntN(2), Seat: 1 + random.IntN(3)}
		l = slices.Insert(l, random.IntN(len(l)+1), stand)
	}
	return l
}

// randomList returns a list that is ordered, or almost.
func randomList(random *rand.Rand) []api.Place {
	l := orderedList(random)
	if len(l) > 0 && random.IntN(5) == 0 {
		i, j := random.IntN(len(l)), random.IntN(len(l))
		if random.IntN(2) == 0 {
			l[i] = l[j]
		} else {
			l[i], l[j] = l[j], l[i]
		}
	}
	return l
}

// takenAmong returns a list of about so many elements, some of them true.
func takenAmong(random *rand.Rand, count int) []bool {
	taken := make([]bool, max(0, count+random.IntN(5)-2))
	often := 1 + random.IntN(5)
	for i := range taken {
		taken[i] = random.IntN(often) == 1
	}
	return taken
}

// chosenAmong returns indices: a few ones, those that follow each other, or any numbers.
func chosenAmong(random *rand.Rand, count int) []int {
	var chosen []int
	start := random.IntN(count + 1)
	for i := range random.IntN(7) {
		switch random.IntN(20) {
		case 0:
			chosen = append(chosen, random.IntN(count+9)-4)
		default:
			chosen = append(chosen, start+i)
		}
	}
	random.Shuffle(len(chosen), func(i, j int) { chosen[i], chosen[j] = chosen[j], chosen[i] })
	return chosen
}

// forScenes calls a function with random scenes, which it makes with a list of its own.
func forScenes(count int, list func(random *rand.Rand) []api.Place, check func(random *rand.Rand, s scene)) {
	random := rand.New(rand.NewPCG(11, uint64(count)))
	for range count {
		l := list(random)
		check(random, scene{l: l, taken: takenAmong(random, len(l)), chosen: chosenAmong(random, len(l))})
	}
}

// indicesBelow returns the elements of a choice that are indices of a list.
func indicesBelow(chosen []int, count int) []int {
	return slices.DeleteFunc(slices.Clone(chosen), func(i int) bool { return i < 0 || i >= count })
}

// P11.1: all functions agree with the words of the chapter.
func TestModel(t *testing.T) {
	forScenes(60000, randomList, func(random *rand.Rand, s scene) {
		if got, want := runs.Rows(s.l), modelFree(s.l, nil); !sameRuns(got, want) {
			t.Fatalf("%v: the rows of %v are not %v", got, s.l, want)
		}
		if got, want := runs.Free(s.l, s.taken), modelFree(s.l, s.taken); !sameRuns(got, want) {
			t.Fatalf("%v: the runs of %+v are not %v", got, s, want)
		}
		if got, want := runs.Together(s.l, s.chosen), modelTogether(s.l, s.chosen); got != want {
			t.Fatalf("Together is %v for %+v", got, s)
		}
		if got, want := runs.Singles(s.l, s.taken, s.chosen), modelSingles(s.l, s.taken, s.chosen); !slices.Equal(got, want) {
			t.Fatalf("%v: the single places of %+v are not %v", got, s, want)
		}
	})
}

// P11.2: each seat is in exactly one row; in a row, seats follow each other, and no row could be continued.
func TestEachSeatInOneRow(t *testing.T) {
	forScenes(10000, orderedList, func(random *rand.Rand, s scene) {
		count := make([]int, len(s.l))
		last := -1
		for _, row := range runs.Rows(s.l) {
			for i, place := range row {
				count[place]++
				if place <= last || i > 0 && !modelNeighbours(s.l[row[i-1]], s.l[place]) {
					t.Fatalf("the row %v of %v is wrong", row, s.l)
				}
				last = place
			}
			for other := range s.l {
				end := modelNeighbours(s.l[other], s.l[row[0]]) || modelNeighbours(s.l[other], s.l[row[len(row)-1]])
				if end && !slices.Contains(row, other) {
					t.Fatalf("the row %v of %v could be continued by %v", row, s.l, other)
				}
			}
		}
		for i := range s.l {
			if (count[i] == 1) != modelSeat(s.l[i]) || count[i] > 1 {
				t.Fatalf("%v is in %d rows of %v", i, count[i], s.l)
			}
		}
	})
}

// P11.3: each seat that is not taken is in exactly one run, no other place is; without taken places, the runs are the rows.
func TestEachFreeSeatInOneRun(t *testing.T) {
	forScenes(10000, orderedList, func(random *rand.Rand, s scene) {
		count := make([]int, len(s.l))
		for _, run := range runs.Free(s.l, s.taken) {
			for _, place := range run {
				count[place]++
			}
		}
		for i := range s.l {
			if (count[i] == 1) != modelFreeSeat(s.l, s.taken, i) || count[i] > 1 {
				t.Fatalf("%v is in %d runs of %+v", i, count[i], s)
			}
		}
		for _, taken := range [][]bool{nil, make([]bool, len(s.l)/2), make([]bool, len(s.l)), make([]bool, len(s.l)+9)} {
			if got, rows := runs.Free(s.l, taken), runs.Rows(s.l); !sameRuns(got, rows) {
				t.Fatalf("the runs %v of %v are not the rows %v", got, s.l, rows)
			}
		}
	})
}

// P11.4: the order of the chosen places does not matter; if seats are chosen together, so are all but the first or the last one.
func TestTogetherInAnyOrder(t *testing.T) {
	together := 0
	forScenes(30000, orderedList, func(random *rand.Rand, s scene) {
		want := runs.Together(s.l, s.chosen)
		sorted := slices.Sorted(slices.Values(s.chosen))
		back := slices.Clone(sorted)
		slices.Reverse(back)
		if runs.Together(s.l, sorted) != want || runs.Together(s.l, back) != want {
			t.Fatalf("the order of %+v matters", s)
		}
		if !want || len(sorted) == 1 {
			return
		}
		together++
		if !runs.Together(s.l, sorted[1:]) || !runs.Together(s.l, sorted[:len(sorted)-1]) {
			t.Fatalf("all but one of %+v are not together", s)
		}
		if middle := slices.Delete(sorted, 1, 2); len(middle) > 1 && modelSeat(s.l[middle[0]]) && runs.Together(s.l, middle) {
			t.Fatalf("the ends %v of %+v are together", middle, s)
		}
	})
	if together < 1000 {
		t.Errorf("only %d choices were together", together)
	}
}

// P11.4: each part of a run is chosen together.
func TestPartsOfRuns(t *testing.T) {
	forScenes(5000, orderedList, func(random *rand.Rand, s scene) {
		all := runs.Free(s.l, s.taken)
		for i, run := range all {
			for from := range run {
				for to := from + 1; to <= len(run); to++ {
					wantTogether(t, s.l, true, run[from:to]...)
				}
			}
			if i > 0 {
				wantTogether(t, s.l, false, append(slices.Clone(all[i-1]), run...)...)
			}
		}
	})
}

// P11.5: a single place that is left over is a neighbour of a chosen one, and of none that is free after the choice.
func TestNeighboursOfSingles(t *testing.T) {
	left := 0
	forScenes(20000, orderedList, func(random *rand.Rand, s scene) {
		after := modelWith(s.l, s.taken, s.chosen)
		for _, single := range runs.Singles(s.l, s.taken, s.chosen) {
			left++
			chosen := slices.ContainsFunc(indicesBelow(s.chosen, len(s.l)), func(c int) bool { return modelNeighbours(s.l[c], s.l[single]) })
			if !chosen || after[single] || modelFreeNeighbour(s.l, after, single, 0, len(s.l)) >= 0 {
				t.Fatalf("%v is no single place that %+v leaves over", single, s)
			}
		}
	})
	if left < 1000 {
		t.Errorf("only %d places were left over", left)
	}
}

// P11.6: choosing whole runs, or nothing, leaves no single place.
func TestWholeRuns(t *testing.T) {
	forScenes(10000, orderedList, func(random *rand.Rand, s scene) {
		wantSingles(t, s.l, s.taken, nil)
		wantSingles(t, s.l, s.taken, []int{-1, len(s.l)})
		var several []int
		for _, run := range runs.Free(s.l, s.taken) {
			wantSingles(t, s.l, s.taken, run)
			several = append(several, run...)
			wantSingles(t, s.l, s.taken, several)
		}
	})
}

// P11.6: choosing places one after the other leaves those over that are single in the end, and were not before.
func TestOneAfterTheOther(t *testing.T) {
	forScenes(20000, orderedList, func(random *rand.Rand, s scene) {
		taken, left := s.taken, []int(nil)
		for _, c := range s.chosen {
			more := runs.Singles(s.l, taken, []int{c})
			taken = modelWith(s.l, taken, []int{c})
			left = slices.DeleteFunc(append(left, more...), func(i int) bool { return i == c })
		}
		slices.Sort(left)
		wantSingles(t, s.l, s.taken, s.chosen, left...)
		for i := range s.l {
			single := modelAlone(s.l, taken, i) && !modelAlone(s.l, s.taken, i)
			if single != slices.Contains(left, i) {
				t.Fatalf("%v is single in the end of %+v, or is not", i, s)
			}
		}
	})
}

// P11.7: what is taken in one row does not matter for runs, and single places, of another one.
func TestRowsApart(t *testing.T) {
	forScenes(5000, orderedList, func(random *rand.Rand, s scene) {
		free, singles := runs.Free(s.l, s.taken), runs.Singles(s.l, s.taken, s.chosen)
		for _, row := range runs.Rows(s.l) {
			others := takenAmong(random, len(s.l))
			for len(others) < len(s.l) {
				others = append(others, false)
			}
			for _, i := range row {
				others[i] = i < len(s.taken) && s.taken[i]
			}
			inRow := func(i int) bool { return slices.Contains(row, i) }
			runInRow := func(run []int) bool { return inRow(run[0]) }
			if !sameRuns(filter(free, runInRow), filter(runs.Free(s.l, others), runInRow)) {
				t.Fatalf("the runs in %v of %+v are others with %v", row, s, others)
			}
			if !slices.Equal(filter(singles, inRow), filter(runs.Singles(s.l, others, s.chosen), inRow)) {
				t.Fatalf("the single places in %v of %+v are others with %v", row, s, others)
			}
		}
	})
}

// filter returns the elements of a list that meet a condition.
func filter[T any](list []T, meets func(T) bool) []T {
	return slices.DeleteFunc(slices.Clone(list), func(e T) bool { return !meets(e) })
}

// P1: any numbers, in any list, lead to a result.
func TestAnyArguments(t *testing.T) {
	odd := []int{0, 1, 2, -1, 3, math.MaxInt, math.MinInt, math.MaxInt - 1, math.MinInt + 1, 1 << 62}
	random := rand.New(rand.NewPCG(1, 11))
	some := func() int { return odd[random.IntN(len(odd))] }
	ordered := 0
	for range 30000 {
		var s scene
		for range random.IntN(5) {
			s.l = append(s.l, api.Place{Kind: some(), Level: some(), Block: some(), Row: some(), Seat: some(), X: some(), Y: some(), View: some(), With: some()})
		}
		if random.IntN(2) == 0 { // the same row, so that some lists are ordered
			for i := range s.l {
				s.l[i].Level, s.l[i].Block, s.l[i].Row = some(), 0, 0
				if i > 0 {
					s.l[i].Level = s.l[0].Level
				}
			}
		}
		s.taken = takenAmong(random, len(s.l))
		for range random.IntN(4) {
			s.chosen = append(s.chosen, some())
		}
		if modelOrdered(s.l) && len(s.l) > 1 {
			ordered++
		}
		if !sameRuns(runs.Rows(s.l), modelFree(s.l, nil)) || !sameRuns(runs.Free(s.l, s.taken), modelFree(s.l, s.taken)) {
			t.Fatalf("the rows or the runs of %+v are wrong", s)
		}
		if runs.Together(s.l, s.chosen) != modelTogether(s.l, s.chosen) || !slices.Equal(runs.Singles(s.l, s.taken, s.chosen), modelSingles(s.l, s.taken, s.chosen)) {
			t.Fatalf("Together or Singles of %+v is wrong", s)
		}
	}
	if ordered < 1000 {
		t.Errorf("only %d lists were ordered", ordered)
	}
}
