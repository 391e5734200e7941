package runs_test

import (
	"math"
	"slices"
	"sync"
	"testing"

	"foyer/api"
	"foyer/hall"
	"foyer/plan"
	"foyer/runs"
)

// seats returns seats of one row.
func seats(level, block, row int, numbers ...int) []api.Place {
	var l []api.Place
	for _, n := range numbers {
		l = append(l, api.Place{Level: level, Block: block, Row: row, Seat: n, X: n, With: -1})
	}
	return l
}

// stands returns places of an area.
func stands(level, block, count int) []api.Place {
	var l []api.Place
	for i := range count {
		l = append(l, api.Place{Kind: api.PlaceStand, Level: level, Block: block, Row: -1, Seat: i + 1, With: -1})
	}
	return l
}

// chapterRow returns the seats 1 to 6 of a row, of which 4 is a gap.
func chapterRow() []api.Place { return seats(0, 0, 0, 1, 2, 3, 5, 6) }

// takenAt returns a list of so many places, of which some are taken.
func takenAt(count int, taken ...int) []bool {
	list := make([]bool, count)
	for _, i := range taken {
		list[i] = true
	}
	return list
}

func sameRuns(a, b [][]int) bool {
	return slices.EqualFunc(a, b, func(x, y []int) bool { return slices.Equal(x, y) })
}

func wantRows(t *testing.T, l []api.Place, want ...[]int) {
	t.Helper()
	if got := runs.Rows(l); !sameRuns(got, want) {
		t.Errorf("the rows are %v, not %v", got, want)
	}
}

func wantFree(t *testing.T, l []api.Place, taken []bool, want ...[]int) {
	t.Helper()
	if got := runs.Free(l, taken); !sameRuns(got, want) {
		t.Errorf("the runs are %v, not %v, %v being taken", got, want, taken)
	}
}

func wantTogether(t *testing.T, l []api.Place, want bool, chosen ...int) {
	t.Helper()
	if got := runs.Together(l, chosen); got != want {
		t.Errorf("Together of %v is %v", chosen, got)
	}
}

func wantSingles(t *testing.T, l []api.Place, taken []bool, chosen []int, want ...int) {
	t.Helper()
	if got := runs.Singles(l, taken, chosen); !slices.Equal(got, want) {
		t.Errorf("the choice %v leaves %v over, not %v, %v being taken", chosen, got, want, taken)
	}
}

// P11.1: the examples of the chapter.
func TestChapterExamples(t *testing.T) {
	l := chapterRow()
	wantRows(t, l, []int{0, 1, 2}, []int{3, 4})
	wantFree(t, l, takenAt(5, 1), []int{0}, []int{2}, []int{3, 4})
	wantTogether(t, l, true, 2, 0, 1)
	wantTogether(t, l, false, 2, 3)
	wantSingles(t, l, nil, []int{0, 1}, 2)
	wantSingles(t, l, nil, []int{1}, 0, 2)
	wantSingles(t, l, nil, []int{3}, 4)
}

// P11.1: the lists of layer 10 are ordered, with areas behind the rows of each level, gaps, wheelchair places and companions' seats.
func TestPlacesOfHalls(t *testing.T) {
	text := `hall h stage 100 0 {
		level floor height 0 {
			door 0 0; aisle 0 0 9 99;
			block left { row a at 10 5 seats 1 to 6 step 1 gap 4; row b at 10 6 seats 3 to 5 step 1 wheel 4 beside 5 of 4 hidden 3; }
			block right { row a at 12 7 seats 6 to 7 step 3; }
			area pit 5 50 8 53 holds 2;
			area rim 5 55 8 57 holds 1;
		}
		level top height 3000 { door 0 0; aisle 0 0 9 99; block left { row a at 10 5 seats 8 to 8 step 1; } }
	}`
	h, err, at := plan.Parse(text)
	if err != api.OK {
		t.Fatalf("the plan has the error %v at %v", err, at)
	}
	l, faults := hall.Build(h)
	if len(l) != 14 || len(faults) != 0 {
		t.Fatalf("the hall has the places %v and the faults %v", l, faults)
	}
	wantRows(t, l, []int{0, 1, 2}, []int{3, 4}, []int{5, 6, 7}, []int{8, 9}, []int{13})
	wantFree(t, l, takenAt(14, 2, 6, 10, 13), []int{0, 1}, []int{3, 4}, []int{5}, []int{7}, []int{8, 9})
	wantTogether(t, l, true, 6, 7, 5)
	wantTogether(t, l, true, 11, 10)
	wantTogether(t, l, false, 11, 12)
	wantTogether(t, l, false, 7, 8)
	wantTogether(t, l, false, 9, 10)
	wantSingles(t, l, nil, []int{5, 9, 10}, 8)
}

// P11.1: a list without places has no rows, and nothing of it can be chosen.
func TestNoPlaces(t *testing.T) {
	for _, l := range [][]api.Place{nil, {}} {
		wantRows(t, l)
		wantFree(t, l, nil)
		wantFree(t, l, []bool{true, false})
		wantTogether(t, l, false)
		wantTogether(t, l, false, 0)
		wantSingles(t, l, nil, nil)
		wantSingles(t, l, []bool{false}, []int{0, 1, -1})
	}
}

// P11.1: seats in different levels, blocks or rows are no neighbours, whatever their numbers.
func TestRowsOfLevelsAndBlocks(t *testing.T) {
	l := slices.Concat(seats(0, 0, 0, 1, 2), seats(0, 0, 1, 3, 4), seats(0, 1, 1, 5, 6), seats(1, 1, 1, 7, 8), seats(1, 1, 3, 1))
	wantRows(t, l, []int{0, 1}, []int{2, 3}, []int{4, 5}, []int{6, 7}, []int{8})
	for i := 1; i < len(l); i++ {
		wantTogether(t, l, i%2 == 1, i, i-1)
	}
}

// P11.1: a seat is a place with a Row of at least 0, whatever its kind, its point, its view and its companion are.
func TestSeatsOfAnyKind(t *testing.T) {
	l := seats(0, 0, 0, 1, 2, 3, 4, 5, 6)
	for i, kind := range []int{api.PlaceWheel, api.PlaceStand, api.PlaceBeside, -1, 99, math.MinInt} {
		l[i].Kind, l[i].X, l[i].Y, l[i].View, l[i].With = kind, -7*i, 1<<i, 9-i, i*i
	}
	wantRows(t, l, []int{0, 1, 2, 3, 4, 5})
	wantFree(t, l, takenAt(6, 2), []int{0, 1}, []int{3, 4, 5})
	wantTogether(t, l, true, 0, 1, 2, 3, 4, 5)
	wantSingles(t, l, nil, []int{1, 4}, 0, 5)
	l[3].Row = -1
	l[3].Kind = api.PlaceSeat
	wantRows(t, l, []int{0, 1, 2}, []int{4, 5})
	wantTogether(t, l, false, 2, 3)
	wantTogether(t, l, true, 3)
}

// P11.1: places of areas may stand anywhere in an ordered list, in any order, and a row goes on behind them.
func TestAreasAmongSeats(t *testing.T) {
	row := seats(0, 0, 0, 1, 2, 3, 4)
	l := slices.Concat(stands(9, 9, 2), row[:1], stands(0, 0, 1), row[1:3], stands(0, 0, 1), stands(-1, 5, 1), row[3:], stands(9, 9, 1))
	wantRows(t, l, []int{2, 4, 5, 8})
	wantFree(t, l, takenAt(10, 3, 4), []int{2}, []int{5, 8})
	wantTogether(t, l, true, 8, 2, 5, 4)
	wantTogether(t, l, true, 2, 4)
	wantTogether(t, l, false, 2, 3, 4)
	wantTogether(t, l, true, 3, 6)
	wantTogether(t, l, true, 9, 0, 1)
	wantTogether(t, l, false, 0, 3)
	wantSingles(t, l, nil, []int{4}, 2)
	wantSingles(t, l, nil, []int{0, 1, 3, 6, 7, 9})
}

// P11.1: any Row below 0 is that of a place of an area, and only the level and the block tell areas apart.
func TestRowsOfAreas(t *testing.T) {
	l := stands(2, 3, 5)
	l[1].Row, l[2].Row, l[3].Row = -2, math.MinInt, math.MinInt+1
	l[4].Seat = l[0].Seat
	wantRows(t, l)
	wantFree(t, l, takenAt(5, 2))
	wantTogether(t, l, true, 0, 1, 2, 3, 4)
	wantTogether(t, l, true, 4, 2, 0)
	wantSingles(t, l, nil, []int{1, 3})
	l[2].Level = 1
	wantTogether(t, l, false, 0, 1, 2)
	wantTogether(t, l, true, 0, 1, 3)
	l[2].Level, l[2].Block = 2, 4
	wantTogether(t, l, false, 2, 1)
	l[2].Block, l[2].Row = 3, 0
	wantTogether(t, l, false, 2, 1)
	wantTogether(t, l, false, 1, 2)
	wantRows(t, l, []int{2})
}

// unordered returns lists of seats 0 to 2 that are not ordered, each for another reason.
func unordered() map[string][]api.Place {
	at := func(level, block, row, seat int) api.Place {
		return api.Place{Level: level, Block: block, Row: row, Seat: seat}
	}
	return map[string][]api.Place{
		"a seat twice":            {at(0, 0, 0, 1), at(0, 0, 0, 1), at(0, 0, 0, 2)},
		"a seat before":           {at(0, 0, 0, 1), at(0, 0, 0, 3), at(0, 0, 0, 2)},
		"a row before":            {at(0, 0, 1, 1), at(0, 0, 1, 2), at(0, 0, 0, 3)},
		"a block before":          {at(0, 1, 0, 1), at(0, 1, 0, 2), at(0, 0, 1, 3)},
		"a level before":          {at(1, 0, 0, 1), at(1, 0, 0, 2), at(0, 1, 1, 3)},
		"a far seat before":       {at(0, 0, 0, 1), at(0, 0, 0, math.MaxInt), at(0, 0, 0, math.MinInt)},
		"a far row before":        {at(0, 0, math.MaxInt, 1), at(0, 0, math.MaxInt, 2), at(0, 0, 0, 3)},
		"a far block before":      {at(0, math.MaxInt, 0, 1), at(0, math.MaxInt, 0, 2), at(0, math.MinInt, 0, 3)},
		"a far level before":      {at(math.MaxInt, 0, 0, 1), at(math.MaxInt, 0, 0, 2), at(math.MinInt, 0, 0, 3)},
		"the first seat too late": {at(0, 0, 0, 3), at(0, 0, 0, 1), at(0, 0, 0, 2)},
	}
}

// P11.1: a list that is not ordered has no rows, runs and single places, and nothing of it is chosen together.
func TestUnorderedLists(t *testing.T) {
	for name, list := range unordered() {
		area := stands(0, 0, 2)
		for _, l := range [][]api.Place{list, slices.Concat(list, area), slices.Concat(area, list), slices.Concat(list[:1], area, list[1:]), slices.Concat(list[:2], area, list[2:])} {
			if got := runs.Rows(l); len(got) != 0 {
				t.Errorf("%s: the rows are %v", name, got)
			}
			if got := runs.Free(l, takenAt(3, 1)); len(got) != 0 {
				t.Errorf("%s: the runs are %v", name, got)
			}
			for i := range l {
				wantTogether(t, l, false, i)
				wantSingles(t, l, nil, []int{i})
			}
			wantTogether(t, l, false)
			wantTogether(t, l, false, 0, 1)
			wantTogether(t, l, false, len(l)-1, len(l)-2)
		}
	}
}

// P11.1: an earlier level, block or row decides the order before what comes after it.
func TestOrderByFirstDifference(t *testing.T) {
	l := slices.Concat(seats(-3, 9, 9, 9), seats(0, -5, 8, 8), seats(0, 7, 0, 7), seats(0, 7, 6, -4), seats(0, 7, 6, 5), seats(1, -9, 0, -9))
	wantRows(t, l, []int{0}, []int{1}, []int{2}, []int{3}, []int{4}, []int{5})
}

// P11.1: numbers of seats far apart do not become neighbours.
func TestFarNumbers(t *testing.T) {
	least, most := math.MinInt, math.MaxInt
	wantRows(t, seats(0, 0, 0, least, most), []int{0}, []int{1})
	wantTogether(t, seats(0, 0, 0, least, most), false, 0, 1)
	wantTogether(t, seats(0, 0, 0, least, most), false, 1, 0)
	wantRows(t, seats(0, 0, 0, least, least+1, 0, most-1, most), []int{0, 1}, []int{2}, []int{3, 4})
	wantRows(t, seats(0, 0, 0, -2, -1, 0, 1, 2), []int{0, 1, 2, 3, 4})
	wantRows(t, slices.Concat(seats(least, least, most, 5), seats(most, most, most, 6)), []int{0}, []int{1})
	wantRows(t, seats(least, most, most, most-2, most-1, most), []int{0, 1, 2})
	wantFree(t, seats(0, 0, 0, least, least+1, most-1, most), []bool{false, true, true}, []int{0}, []int{3})
	wantSingles(t, seats(0, 0, 0, least, least+1, most-1, most), nil, []int{1, 2}, 0, 3)
	wantRows(t, seats(0, 0, 0, 1, 1<<32+2, 1<<33+3), []int{0}, []int{1}, []int{2})
}

// P11.1 (K2): the list of what is taken may be shorter or longer than that of the places.
func TestTakenOfOtherLengths(t *testing.T) {
	l := chapterRow()
	wantFree(t, l, nil, []int{0, 1, 2}, []int{3, 4})
	wantFree(t, l, []bool{}, []int{0, 1, 2}, []int{3, 4})
	wantFree(t, l, []bool{true}, []int{1, 2}, []int{3, 4})
	wantFree(t, l, []bool{false, true}, []int{0}, []int{2}, []int{3, 4})
	wantFree(t, l, takenAt(9, 4, 5, 8), []int{0, 1, 2}, []int{3})
	wantFree(t, l, takenAt(9, 0, 1, 2, 3, 4))
	wantSingles(t, l, []bool{true}, []int{2}, 1)
	wantSingles(t, l, takenAt(9, 0, 5, 6, 7, 8), []int{2}, 1)
	wantSingles(t, l, []bool{true, true}, []int{4}, 3)
}

// P11.1 (K3): which choices are together.
func TestTogether(t *testing.T) {
	l := slices.Concat(chapterRow(), stands(0, 1, 3), stands(0, 2, 1))
	for _, chosen := range [][]int{{0}, {3}, {4}, {5}, {8}, {0, 1}, {1, 0}, {1, 2}, {0, 1, 2}, {0, 2, 1}, {1, 0, 2}, {1, 2, 0}, {2, 0, 1}, {2, 1, 0}, {3, 4}, {4, 3}, {5, 6, 7}, {7, 5}, {6, 5}} {
		wantTogether(t, l, true, chosen...)
	}
	for _, chosen := range [][]int{{}, {0, 2}, {2, 0}, {2, 3}, {0, 1, 2, 3}, {0, 1, 2, 3, 4}, {1, 3}, {4, 5}, {5, 4}, {7, 8}, {8, 5}, {5, 6, 7, 8}, {0, 5}, {3, 4, 5}, {0, 1, 3, 4}} {
		wantTogether(t, l, false, chosen...)
	}
}

// P11.1 (K3): places are given by different indices of the list.
func TestTogetherOfOtherIndices(t *testing.T) {
	l := slices.Concat(chapterRow(), stands(0, 1, 3))
	for _, chosen := range [][]int{{0, 0}, {0, 1, 0}, {1, 0, 1, 2}, {5, 5}, {5, 6, 5}, {7, 6, 5, 7}, {2, 2, 2}} {
		wantTogether(t, l, false, chosen...)
	}
	for _, wrong := range []int{-1, 8, 9, 1 << 32, 1<<32 + 1, -1 << 32, math.MaxInt, math.MinInt} {
		for _, chosen := range [][]int{{wrong}, {0, wrong}, {wrong, 1, 0}, {7, wrong}, {wrong, wrong}} {
			wantTogether(t, l, false, chosen...)
		}
	}
	wantTogether(t, l, false, -1, 0)
	wantTogether(t, l, false, 7, 8)
	wantTogether(t, l, false, slices.Repeat([]int{0}, 100)...)
}

// P11.1 (K4): which single places are left over.
func TestSingles(t *testing.T) {
	l := slices.Concat(seats(0, 0, 0, 1, 2, 3, 4, 5, 6), seats(0, 0, 1, 1), seats(0, 0, 2, 1, 2), stands(0, 1, 2))
	none := []bool(nil)
	for _, test := range []struct {
		taken  []bool
		chosen []int
		want   []int
	}{
		{none, nil, nil},
		{none, []int{}, nil},
		{none, []int{0}, nil},
		{none, []int{0, 1, 2, 3}, nil},
		{none, []int{0, 1, 2, 3, 4}, []int{5}},
		{none, []int{1, 2, 3, 4}, []int{0, 5}},
		{none, []int{1, 3}, []int{0, 2}},
		{none, []int{4, 1}, []int{0, 5}},
		{none, []int{0, 1, 2, 3, 4, 5}, nil},
		{none, []int{6}, nil},
		{none, []int{7}, []int{8}},
		{none, []int{8, 1}, []int{0, 7}},
		{none, []int{9}, nil},
		{none, []int{9, 10}, nil},
		{takenAt(11, 1), nil, nil},
		{takenAt(11, 1), []int{1}, nil},
		{takenAt(11, 1), []int{4}, []int{5}},
		{takenAt(11, 1), []int{3}, []int{2}},
		{takenAt(11, 1), []int{0}, nil},
		{takenAt(11, 1, 4), []int{2}, []int{3}},
		{takenAt(11, 1, 4), []int{2, 3}, nil},
		{takenAt(11, 1, 4), []int{0, 5}, nil},
		{takenAt(11, 2, 3), []int{2, 3, 4}, []int{5}},
		{takenAt(11, 2, 3), []int{1}, []int{0}},
		{takenAt(11, 7), []int{8}, nil},
		{takenAt(11, 0, 1, 2, 3, 4, 5, 6, 7, 8, 9, 10), []int{0, 3}, nil},
	} {
		wantSingles(t, l, test.taken, test.chosen, test.want...)
	}
}

// P11.1 (K4): an index more than once counts once, and elements that are no indices do not matter.
func TestSinglesOfOtherIndices(t *testing.T) {
	l := chapterRow()
	wantSingles(t, l, nil, []int{1, 1, 1}, 0, 2)
	wantSingles(t, l, nil, []int{1, 0, 1}, 2)
	for _, wrong := range []int{-1, -2, -5, 5, 6, 1 << 32, 1<<32 + 1, -1<<32 + 1, math.MaxInt, math.MinInt} {
		wantSingles(t, l, nil, []int{wrong})
		wantSingles(t, l, nil, []int{wrong, 1}, 0, 2)
		wantSingles(t, l, takenAt(5, 4), []int{2, wrong, 1, wrong}, 0)
	}
}

// many returns a list of 4000 places in rows of 60 seats.
func many() []api.Place {
	var l []api.Place
	for i := range api.MaxPlaces {
		l = append(l, api.Place{Row: i / 60, Seat: i%60 + 1})
	}
	return l
}

// P11.1, P1: lists as long as a hall can have them, and longer ones.
func TestLongLists(t *testing.T) {
	l := many()
	if rows := runs.Rows(l); len(rows) != 67 || len(rows[0]) != 60 || len(rows[66]) != 40 || rows[66][39] != 3999 {
		t.Errorf("there are %d rows", len(rows))
	}
	var odd []int
	for i := 1; i < len(l); i += 2 {
		odd = append(odd, i)
	}
	if singles := runs.Singles(l, nil, odd); len(singles) != 2000 || singles[1999] != 3998 {
		t.Errorf("%d places are left over", len(singles))
	}
	line := seats(0, 0, 0)
	for i := range 200000 {
		line = append(line, api.Place{Seat: i})
	}
	all := make([]int, len(line))
	for i := range all {
		all[i] = len(line) - 1 - i
	}
	wantTogether(t, line, true, all...)
	all[7] = all[99999]
	wantTogether(t, line, false, all...)
	if rows := runs.Rows(line); len(rows) != 1 || len(rows[0]) != len(line) {
		t.Errorf("one long row is %d rows", len(rows))
	}
}

// P3: the arguments stay as they are, and runs share memory neither with them nor with each other.
func TestArgumentsAndResults(t *testing.T) {
	l, taken, chosen := chapterRow(), takenAt(5, 1), []int{4, 2, 0, 9, -1}
	free := runs.Free(l, taken)
	runs.Rows(l)
	runs.Together(l, chosen[:3])
	runs.Together(l, chosen)
	runs.Singles(l, taken, chosen)
	if !slices.Equal(l, chapterRow()) || !slices.Equal(taken, takenAt(5, 1)) || !slices.Equal(chosen, []int{4, 2, 0, 9, -1}) {
		t.Error("an argument was changed")
	}
	for _, run := range append(free, runs.Rows(l)...) {
		for i := range run {
			run[i] = -7
		}
		_ = append(run, -9)
	}
	wantFree(t, l, taken, []int{0}, []int{2}, []int{3, 4})
	for i := range l {
		l[i].Row = -1
		taken[i] = true
	}
	first := runs.Rows(chapterRow())
	_ = append(first[0][:2], 77, 78, 79)
	if !slices.Equal(first[1], []int{3, 4}) {
		t.Errorf("the second row is %v", first[1])
	}
}

// P3: equal arguments yield equal results, at any time and at once; nil and empty slices are equivalent.
func TestEqualResults(t *testing.T) {
	l := many()
	taken := takenAt(len(l), 3, 5, 100, 3000)
	chosen := []int{17, 19, 58, 101, 104}
	free, singles := runs.Free(l, taken), runs.Singles(l, taken, chosen)
	var all sync.WaitGroup
	for range 8 {
		all.Go(func() {
			if !sameRuns(runs.Free(slices.Clone(l), slices.Clone(taken)), free) || !slices.Equal(runs.Singles(l, taken, slices.Clone(chosen)), singles) {
				t.Error("other results for equal arguments")
			}
			if !runs.Together(l, chosen[:1]) || runs.Together(l, chosen) {
				t.Error("other places are together")
			}
		})
	}
	all.Wait()
	if !sameRuns(runs.Free(l, nil), runs.Free(l, []bool{})) || !slices.Equal(runs.Singles(l, nil, nil), runs.Singles(l, []bool{}, []int{})) {
		t.Error("nil and empty slices are not equivalent")
	}
}
