package sight_test

import (
	"math"
	"math/rand/v2"
	"reflect"
	"slices"
	"sync"
	"testing"

	"foyer/api"
	"foyer/sight"
)

// A crossing is the three things that Crosses compares.
type crossing struct {
	a, b api.Point
	x    api.Box
}

func (c crossing) crosses() bool { return sight.Crosses(c.a, c.b, c.x) }

// numbers returns the eight numbers of a crossing, to be changed.
func (c *crossing) numbers() []*int {
	return []*int{&c.a.X, &c.a.Y, &c.b.X, &c.b.Y, &c.x.X, &c.x.Y, &c.x.X2, &c.x.Y2}
}

// moved returns a crossing with all of it moved.
func (c crossing) moved(dx, dy int) crossing {
	for i, n := range c.numbers() {
		*n += []int{dx, dy}[i%2]
	}
	return c
}

func (c crossing) swapped() crossing { return crossing{c.b, c.a, c.x} }

// turned returns a crossing with X and Y exchanged.
func (c crossing) turned() crossing {
	return crossing{point(c.a.Y, c.a.X), point(c.b.Y, c.b.X), box(c.x.Y, c.x.X, c.x.Y2, c.x.X2)}
}

// mirrored returns a crossing with each X reflected, so that 0 becomes a number and the number 0.
func (c crossing) mirrored(width int) crossing {
	return crossing{point(width-c.a.X, c.a.Y), point(width-c.b.X, c.b.Y), box(width-c.x.X2, c.x.Y, width-c.x.X, c.x.Y2)}
}

func point(x, y int) api.Point { return api.Point{X: x, Y: y} }

func box(x, y, x2, y2 int) api.Box { return api.Box{X: x, Y: y, X2: x2, Y2: y2} }

// notCoordinates are numbers that are none.
var notCoordinates = []int{-1, 10001, -2, 10002, 20000, -10000, 1 << 16, -1 << 16, 1 << 32, 1<<32 + 5, -1 << 32, 1 << 62, math.MaxInt32, math.MinInt32, math.MaxInt, math.MinInt, math.MinInt + 5, math.MaxInt - 5}

func TestChapterExamples(t *testing.T) {
	wantCrosses(t, crossing{point(0, 0), point(4, 4), box(2, 2, 3, 5)}, true)
	wantCrosses(t, crossing{point(0, 0), point(4, 4), box(0, 1, 0, 9)}, false)
	wantCrosses(t, crossing{point(0, 0), point(10, 1), box(5, 0, 5, 0)}, false)
	wantView(t, hallOf(point(0, 0), 0), point(1000, 0), 0)
	wantView(t, hallOf(point(0, 0), 0, box(500, 0, 500, 0)), point(1001, 0), 2)
}

// P9.1, I1: lines that just touch a rectangle, or just miss it.
func TestTouching(t *testing.T) {
	x := box(10, 20, 30, 50)
	for _, test := range []struct {
		ax, ay, bx, by int
		want           bool
	}{
		// inside, around, through the middle
		{15, 25, 25, 45, true}, {20, 30, 20, 30, true}, {0, 0, 40, 60, true}, {0, 35, 9000, 35, true}, {20, 0, 20, 9000, true}, {20, 30, 9000, 9000, true},
		// along the sides, and beside them
		{10, 20, 30, 20, true}, {0, 20, 40, 20, true}, {0, 19, 40, 19, false}, {0, 50, 40, 50, true}, {0, 51, 40, 51, false},
		{10, 0, 10, 60, true}, {9, 0, 9, 60, false}, {30, 0, 30, 60, true}, {31, 0, 31, 60, false},
		// to the sides, and to the points before them
		{0, 30, 10, 30, true}, {0, 30, 9, 30, false}, {40, 30, 30, 30, true}, {40, 30, 31, 30, false},
		{20, 0, 20, 20, true}, {20, 0, 20, 19, false}, {20, 60, 20, 50, true}, {20, 60, 20, 51, false},
		// to the corners, and beyond them
		{0, 0, 10, 20, true}, {0, 0, 9, 18, false}, {9999, 9999, 30, 50, true}, {50, 0, 30, 20, true}, {0, 60, 10, 50, true}, {0, 60, 9, 51, false},
		// across the corners, exactly and nearly
		{5, 25, 15, 15, true}, {4, 25, 15, 14, false}, {5, 24, 15, 15, false}, {25, 15, 35, 25, true}, {25, 14, 35, 24, false}, {25, 14, 36, 25, false},
		{5, 45, 15, 55, true}, {5, 46, 15, 55, false}, {4, 45, 15, 56, false}, {25, 55, 35, 45, true}, {25, 55, 35, 46, false}, {26, 55, 35, 45, false},
		// on the line of a side or a diagonal, but too short
		{0, 20, 9, 20, false}, {31, 50, 99, 50, false}, {10, 0, 10, 19, false}, {30, 51, 30, 99, false}, {0, 5, 8, 17, false}, {32, 53, 60, 95, false},
		// single points
		{10, 20, 10, 20, true}, {30, 50, 30, 50, true}, {10, 50, 10, 50, true}, {30, 20, 30, 20, true}, {9, 20, 9, 20, false}, {10, 19, 10, 19, false}, {31, 50, 31, 50, false}, {30, 51, 30, 51, false}, {20, 51, 20, 51, false}, {0, 0, 0, 0, false},
		// beside a rectangle that lies between the ends in one direction only
		{0, 55, 9000, 51, false}, {5, 0, 9, 9000, false}, {0, 60, 60, 51, false}, {0, 10, 60, 19, false},
	} {
		wantCrosses(t, crossing{point(test.ax, test.ay), point(test.bx, test.by), x}, test.want)
	}
}

// P9.1, I1: rectangles that are lines or points, also at the greatest distances.
func TestThinRectangles(t *testing.T) {
	wantCrosses(t, crossing{point(0, 0), point(10, 10), box(5, 5, 5, 5)}, true)
	wantCrosses(t, crossing{point(0, 0), point(10, 10), box(5, 6, 5, 6)}, false)
	wantCrosses(t, crossing{point(7, 7), point(7, 7), box(7, 7, 7, 7)}, true)
	wantCrosses(t, crossing{point(7, 7), point(7, 7), box(7, 8, 7, 8)}, false)
	wantCrosses(t, crossing{point(0, 0), point(10, 10), box(0, 5, 5, 5)}, true)
	wantCrosses(t, crossing{point(0, 0), point(10, 10), box(0, 5, 4, 5)}, false)
	wantCrosses(t, crossing{point(0, 0), point(10, 1), box(5, 0, 5, 1)}, true)
	wantCrosses(t, crossing{point(0, 0), point(10, 10), box(0, 0, 0, 0)}, true)
	wantCrosses(t, crossing{point(1, 1), point(10, 10), box(0, 0, 0, 0)}, false)
	wantCrosses(t, crossing{point(0, 0), point(10000, 10000), box(5000, 5000, 5000, 5000)}, true)
	wantCrosses(t, crossing{point(0, 0), point(10000, 9999), box(5000, 5000, 5000, 5000)}, false)
	wantCrosses(t, crossing{point(0, 0), point(10000, 9999), box(5000, 4999, 5000, 4999)}, false)
	wantCrosses(t, crossing{point(0, 0), point(10000, 9999), box(5000, 4999, 5000, 5000)}, true)
	wantCrosses(t, crossing{point(1, 0), point(10000, 9998), box(9999, 9997, 9999, 9997)}, false)
	wantCrosses(t, crossing{point(0, 10000), point(10000, 0), box(10000, 0, 10000, 0)}, true)
	wantCrosses(t, crossing{point(0, 10000), point(10000, 0), box(10000, 1, 10000, 10000)}, false)
	wantCrosses(t, crossing{point(0, 10000), point(10000, 0), box(9999, 1, 10000, 10000)}, true)
	wantCrosses(t, crossing{point(10000, 10000), point(10000, 10000), box(0, 0, 10000, 10000)}, true)
	wantCrosses(t, crossing{point(10000, 10000), point(10000, 10000), box(0, 0, 9999, 9999)}, false)
}

// P9.1, I1.
func TestRectanglesWithoutPoints(t *testing.T) {
	ends := [][2]api.Point{{point(5, 5), point(5, 5)}, {point(0, 0), point(10, 10)}, {point(0, 5), point(10, 5)}, {point(5, 10), point(5, 0)}, {point(4, 6), point(6, 4)}}
	for _, end := range ends {
		for _, x := range []api.Box{box(6, 5, 5, 5), box(5, 6, 5, 5), box(6, 6, 5, 5), box(6, 0, 5, 10), box(0, 6, 10, 5), box(10, 10, 0, 0), box(10, 0, 0, 10), box(0, 10, 10, 0), box(10000, 0, 0, 10000)} {
			wantCrosses(t, crossing{end[0], end[1], x}, false)
		}
		wantCrosses(t, crossing{end[0], end[1], box(5, 5, 5, 5)}, true)
	}
}

// P9.1, I1: whatever the other numbers are.
func TestNoLineCrossesWithoutCoordinates(t *testing.T) {
	for _, c := range []crossing{
		{point(0, 0), point(10000, 10000), box(0, 0, 10000, 10000)},
		{point(5000, 5000), point(5000, 5000), box(0, 0, 10000, 10000)},
		{point(0, 0), point(0, 0), box(0, 0, 0, 0)},
		{point(10000, 0), point(0, 10000), box(10, 10, 9990, 9990)},
	} {
		wantCrosses(t, c, true)
		for i := range c.numbers() {
			for _, n := range notCoordinates {
				changed := c
				*changed.numbers()[i] = n
				wantCrosses(t, changed, false)
			}
		}
	}
	for _, n := range notCoordinates {
		wantCrosses(t, crossing{point(n, n), point(n, n), box(n, n, n, n)}, false)
	}
}

// P9.1, I1: all lines and rectangles of a small square, those without points among them.
func TestAllSmallCrossings(t *testing.T) {
	const width = 4
	each := func(f func(n int)) {
		for n := range width {
			f(n)
		}
	}
	var c crossing
	var choose func(left []*int)
	choose = func(left []*int) {
		if len(left) == 0 {
			wantCrosses(t, c, plainCrosses(c))
			return
		}
		each(func(n int) {
			*left[0] = n
			choose(left[1:])
		})
	}
	choose(c.numbers())
}

// P9.1, I1.
func TestRandomCrossings(t *testing.T) {
	random := rand.New(rand.NewPCG(9, 1))
	seen := map[bool]int{}
	for range 200000 {
		c := randomCrossing(random)
		want := plainCrosses(c)
		wantCrosses(t, c, want)
		seen[want]++
	}
	if seen[true] < 20000 || seen[false] < 20000 {
		t.Errorf("the random crossings are one-sided: %v", seen)
	}
}

// P9.1, I2: distances with the height among them, at and beyond the bounds.
func TestDistances(t *testing.T) {
	for _, test := range []struct{ x, y, height, want int }{
		{0, 0, 0, 0}, {1000, 0, 0, 0}, {1001, 0, 0, 1}, {0, 1000, 0, 0}, {0, 1001, 0, 1}, {0, 0, 1000, 0}, {0, 0, 1001, 1},
		{600, 800, 0, 0}, {600, 800, 1, 1}, {601, 800, 0, 1}, {600, 801, 0, 1}, {480, 640, 600, 0}, {480, 640, 601, 1}, {707, 707, 17, 0}, {707, 707, 18, 1}, {708, 707, 0, 1},
		{3000, 0, 0, 1}, {3001, 0, 0, 2}, {0, 3000, 0, 1}, {0, 3001, 0, 2}, {0, 0, 3000, 1}, {0, 0, 3001, 2},
		{1000, 2000, 2000, 1}, {1000, 2000, 2001, 2}, {1001, 2000, 2000, 2}, {1000, 2001, 2000, 2}, {1800, 2400, 0, 1}, {1800, 2400, 1, 2},
		{10000, 10000, 10000, 2}, {10000, 0, 0, 2}, {0, 10000, 0, 2}, {0, 0, 10000, 2},
	} {
		wantView(t, hallOf(point(0, 0), test.height), point(test.x, test.y), test.want)
		wantView(t, hallOf(point(test.x, test.y), test.height), point(0, 0), test.want)
		wantView(t, hallOf(point(10000, 10000), test.height), point(10000-test.x, 10000-test.y), test.want)
		wantView(t, hallOf(point(10000-test.x, test.y), test.height), point(10000, 0), test.want)
	}
}

// P9.1, I2: pillars count each for itself, if the line crosses them.
func TestPillars(t *testing.T) {
	stage := point(100, 100)
	in, touched, missed := box(120, 90, 130, 110), box(150, 80, 160, 100), box(150, 101, 160, 120)
	atSeat, atStage, behind := box(200, 100, 210, 110), box(100, 100, 100, 100), box(201, 90, 210, 110)
	empty, bad, twoLevels := box(130, 90, 120, 110), box(120, 90, 130, 10001), box(-1, -1, 10000, 10000)
	for _, test := range []struct {
		pillars []api.Box
		want    int
	}{
		{nil, 0}, {[]api.Box{}, 0}, {[]api.Box{in}, 1}, {[]api.Box{touched}, 1}, {[]api.Box{missed}, 0}, {[]api.Box{atSeat}, 1}, {[]api.Box{atStage}, 1}, {[]api.Box{behind}, 0},
		{[]api.Box{empty}, 0}, {[]api.Box{bad}, 0}, {[]api.Box{twoLevels}, 0}, {[]api.Box{empty, bad, missed, twoLevels, behind, in}, 1},
		{[]api.Box{in, touched}, 2}, {[]api.Box{in, in}, 2}, {[]api.Box{in, missed, touched}, 2}, {[]api.Box{in, touched, atSeat}, 3}, {[]api.Box{in, touched, atSeat, atStage}, 3}, {[]api.Box{in, in, in, in, in}, 3}, {[]api.Box{missed, in, missed, in, missed, in, missed}, 3},
		{slices.Repeat([]api.Box{in}, 100), 3}, {slices.Repeat([]api.Box{missed}, 100), 0}, {slices.Repeat([]api.Box{{}}, 256), 0},
	} {
		for height, farther := range map[int]int{0: 0, 1000: 1, 3000: 2, 10000: 2} {
			wantView(t, hallOf(stage, height, test.pillars...), point(200, 100), min(3, test.want+farther))
		}
	}
}

// P9.1, I2.
func TestLevelsThatDoNotExist(t *testing.T) {
	for n := range 10 {
		h := api.Hall{Levels: make([]api.Level, n)}
		for level := range n {
			if got := sight.View(h, level, point(0, 0)); got != 0 {
				t.Errorf("the view from level %d of %d is %d", level, n, got)
			}
		}
		for _, level := range []int{-1, -2, -n - 1, n, n + 1, n + 8, 1 << 32, 1 << 62, math.MaxInt, math.MinInt} {
			if got := sight.View(h, level, point(0, 0)); got != 3 {
				t.Errorf("the view from level %d of %d is %d", level, n, got)
			}
		}
	}
	if got := sight.View(api.Hall{}, 0, api.Point{}); got != 3 {
		t.Errorf("the view from level 0 of none is %d", got)
	}
}

// P9.1, I2: whatever the other numbers are.
func TestNoViewWithoutCoordinates(t *testing.T) {
	for _, n := range notCoordinates {
		wantView(t, hallOf(point(0, 0), n), point(0, 0), 3)
		wantView(t, hallOf(point(n, 0), 0), point(0, 0), 3)
		wantView(t, hallOf(point(0, n), 0), point(0, 0), 3)
		wantView(t, hallOf(point(0, 0), 0), point(n, 0), 3)
		wantView(t, hallOf(point(0, 0), 0), point(0, n), 3)
		wantView(t, hallOf(point(n, n), 0), point(n, n), 3)
		wantView(t, hallOf(point(n, n), n, box(n, n, n, n)), point(n, n), 3)
	}
	for _, n := range []int{0, 10000} {
		wantView(t, hallOf(point(n, n), 0), point(n, n), 0)
		wantView(t, hallOf(point(n, n), 10000), point(n, n), 2)
	}
}

// P9.1, I2: neither names nor other things of a hall matter, and these need no coordinates.
func TestOnlyPillarsMatter(t *testing.T) {
	h := hallOf(point(100, 100), 0, box(120, 90, 130, 110))
	want := sight.View(h, 0, point(200, 100))
	across := box(100, 100, 200, 100)
	l := &h.Levels[0]
	h.Name, l.Name, l.At = "h", "l", -5
	l.Blocks = []api.Block{{Name: "b", Rows: []api.Row{{Name: "r", X: 100, Y: 100, From: 1, To: 60, Step: 1, Marks: []api.Mark{{Kind: api.MarkHidden, Seat: 1}}}}}}
	l.Areas = []api.Area{{Box: across, Holds: 4000}}
	l.Aisles = []api.Box{across, box(-1, -1, -1, -1)}
	l.Doors = []api.Point{point(150, 100), point(-1, 0)}
	wantView(t, h, point(200, 100), want)
}

// P9.1, I2.
func TestRandomViews(t *testing.T) {
	random := rand.New(rand.NewPCG(9, 2))
	var seen [4]int
	for range 50000 {
		h, p := randomHall(random)
		for level := -1; level <= len(h.Levels); level++ {
			want := plainView(h, level, p)
			if got := sight.View(h, level, p); got != want {
				t.Fatalf("the view from %v of level %d of %v is %d, not %d", p, level, h, got, want)
			}
			seen[want]++
		}
	}
	if slices.Min(seen[:]) < 5000 {
		t.Errorf("the random views are one-sided: %v", seen)
	}
}

// P9.2: also where a number is no coordinate, or a rectangle has no points.
func TestSymmetry(t *testing.T) {
	random := rand.New(rand.NewPCG(9, 3))
	for range 50000 {
		c := randomCrossing(random)
		if random.IntN(10) == 0 {
			*c.numbers()[random.IntN(8)] = notCoordinates[random.IntN(4)]
		}
		want := c.crosses()
		wantCrosses(t, c.swapped(), want)
		wantCrosses(t, c.turned(), want)
		wantCrosses(t, c.mirrored(10000), want)
		wantCrosses(t, c.turned().mirrored(10000).turned(), want)
		wantCrosses(t, c.mirrored(10000).turned().swapped(), want)
	}
}

// P9.2: a reflection may be at any number that leaves coordinates.
func TestReflections(t *testing.T) {
	random := rand.New(rand.NewPCG(9, 4))
	for range 20000 {
		c := randomCrossing(random)
		low, high := slices.Min([]int{c.a.X, c.b.X, c.x.X, c.x.X2}), slices.Max([]int{c.a.X, c.b.X, c.x.X, c.x.X2})
		for _, width := range []int{high, high + random.IntN(10001+low-high), 10000 + low} {
			wantCrosses(t, c.mirrored(width), c.crosses())
		}
	}
}

// P9.3: up to the coordinates at both ends, and not beyond them.
func TestTranslation(t *testing.T) {
	random := rand.New(rand.NewPCG(9, 5))
	for range 20000 {
		c := randomCrossing(random)
		xs, ys := []int{c.a.X, c.b.X, c.x.X, c.x.X2}, []int{c.a.Y, c.b.Y, c.x.Y, c.x.Y2}
		left, right, down, up := -slices.Min(xs), 10000-slices.Max(xs), -slices.Min(ys), 10000-slices.Max(ys)
		for _, dx := range []int{left, left + random.IntN(right-left+1), right} {
			for _, dy := range []int{down, down + random.IntN(up-down+1), up} {
				wantCrosses(t, c.moved(dx, dy), c.crosses())
			}
		}
		wantCrosses(t, c.moved(left-1, 0), false)
		wantCrosses(t, c.moved(right+1, 0), false)
		wantCrosses(t, c.moved(0, down-1), false)
		wantCrosses(t, c.moved(0, up+1), false)
	}
}

// P9.4.
func TestGreaterRectanglesAreCrossed(t *testing.T) {
	random := rand.New(rand.NewPCG(9, 6))
	for range 50000 {
		c := randomCrossing(random)
		greater := c
		greater.x = box(random.IntN(c.x.X+1), random.IntN(c.x.Y+1), 10000-random.IntN(10001-c.x.X2), 10000-random.IntN(10001-c.x.Y2))
		if c.crosses() {
			wantCrosses(t, greater, true)
		}
		if !greater.crosses() {
			wantCrosses(t, c, false)
		}
	}
}

// P9.4.
func TestEndsInRectangles(t *testing.T) {
	random := rand.New(rand.NewPCG(9, 7))
	for range 50000 {
		c := randomCrossing(random)
		if c.x.X > c.x.X2 || c.x.Y > c.x.Y2 {
			continue
		}
		inside := point(c.x.X+random.IntN(c.x.X2-c.x.X+1), c.x.Y+random.IntN(c.x.Y2-c.x.Y+1))
		wantCrosses(t, crossing{inside, c.b, c.x}, true)
		wantCrosses(t, crossing{c.a, inside, c.x}, true)
		wantCrosses(t, crossing{inside, inside, c.x}, true)
		for _, corner := range []api.Point{point(c.x.X, c.x.Y), point(c.x.X, c.x.Y2), point(c.x.X2, c.x.Y), point(c.x.X2, c.x.Y2)} {
			wantCrosses(t, crossing{corner, c.b, c.x}, true)
			wantCrosses(t, crossing{c.a, corner, c.x}, true)
		}
	}
}

// P9.4.
func TestLinesOnOneSideOfRectangles(t *testing.T) {
	random := rand.New(rand.NewPCG(9, 8))
	for range 50000 {
		c := randomCrossing(random)
		left, down := min(c.x.X, c.x.X2), min(c.x.Y, c.x.Y2)
		right, up := max(c.x.X, c.x.X2), max(c.x.Y, c.x.Y2)
		if left > 0 {
			wantCrosses(t, crossing{point(random.IntN(left), c.a.Y), point(left-1, c.b.Y), c.x}, false)
		}
		if right < 10000 {
			wantCrosses(t, crossing{point(right+1, c.a.Y), point(10000-random.IntN(10000-right), c.b.Y), c.x}, false)
		}
		if down > 0 {
			wantCrosses(t, crossing{point(c.a.X, random.IntN(down)), point(c.b.X, down-1), c.x}, false)
		}
		if up < 10000 {
			wantCrosses(t, crossing{point(c.a.X, up+1), point(c.b.X, 10000-random.IntN(10000-up)), c.x}, false)
		}
	}
}

// P9.5: also where one of the two rectangles is a line, or both are.
func TestDivision(t *testing.T) {
	random := rand.New(rand.NewPCG(9, 9))
	for range 50000 {
		c := randomCrossing(random)
		if c.x.X > c.x.X2 || c.x.Y > c.x.Y2 {
			continue
		}
		for _, c := range []crossing{c, c.turned()} {
			for _, border := range []int{c.x.X, c.x.X + random.IntN(c.x.X2-c.x.X+1), (c.x.X + c.x.X2) / 2, c.x.X2} {
				left, right := c, c
				left.x.X2, right.x.X = border, border
				wantCrosses(t, c, left.crosses() || right.crosses())
			}
		}
	}
}

// P9.6.
func TestFurtherPillars(t *testing.T) {
	random := rand.New(rand.NewPCG(9, 10))
	for range 20000 {
		h, p := randomHall(random)
		for level := range h.Levels {
			before := sight.View(h, level, p)
			pillars := h.Levels[level].Pillars
			further := randomBox(random)
			for at := range len(pillars) + 1 {
				h.Levels[level].Pillars = slices.Insert(slices.Clone(pillars), at, further)
				if after := sight.View(h, level, p); after < before || after > before+1 {
					t.Fatalf("the pillar %v changes the view from %v of level %d of %v from %d to %d", further, p, level, h, before, after)
				}
			}
			h.Levels[level].Pillars = pillars
		}
	}
}

// P9.6.
func TestGreaterHeights(t *testing.T) {
	random := rand.New(rand.NewPCG(9, 11))
	for range 20000 {
		h, p := randomHall(random)
		for level := range h.Levels {
			before := sight.View(h, level, p)
			for _, more := range []int{1, 10, random.IntN(1000), random.IntN(10000), 20000} {
				h.Levels[level].Height += more
				after := sight.View(h, level, p)
				h.Levels[level].Height -= more
				if after < before {
					t.Fatalf("%d more improve the view from %v of level %d of %v from %d to %d", more, p, level, h, before, after)
				}
			}
		}
	}
}

// P9.6: nor does anything else of another level matter.
func TestOtherLevels(t *testing.T) {
	random := rand.New(rand.NewPCG(9, 12))
	for range 20000 {
		h, p := randomHall(random)
		for level := range h.Levels {
			before := sight.View(h, level, p)
			changed := h
			changed.Levels = slices.Clone(h.Levels)
			for other := range changed.Levels {
				if other != level {
					changed.Levels[other] = api.Level{Height: notCoordinates[random.IntN(4)], Pillars: []api.Box{randomBox(random), box(0, 0, 10000, 10000), box(-1, -1, 20000, 20000)}}
				}
			}
			wantSame(t, changed, level, p, before)
			changed.Levels = append(changed.Levels, api.Level{Pillars: []api.Box{box(0, 0, 10000, 10000)}})
			wantSame(t, changed, level, p, before)
			changed.Levels = []api.Level{h.Levels[level]}
			wantSame(t, changed, 0, p, before)
		}
	}
}

// P1: any numbers at all.
func TestAnyNumbers(t *testing.T) {
	random := rand.New(rand.NewPCG(9, 13))
	whole := func() int {
		if random.IntN(4) == 0 {
			return coordinate(random)
		}
		return int(random.Uint64()) >> random.IntN(64)
	}
	anyBox := func() api.Box { return box(whole(), whole(), whole(), whole()) }
	for range 50000 {
		c := crossing{point(whole(), whole()), point(whole(), whole()), anyBox()}
		wantCrosses(t, c, plainCrosses(c))
		h := api.Hall{Stage: point(whole(), whole()), Levels: []api.Level{{Height: whole(), Pillars: []api.Box{anyBox(), anyBox()}}}}
		level, p := []int{0, 0, 0, whole()}[random.IntN(4)], point(whole(), whole())
		if got, want := sight.View(h, level, p), plainView(h, level, p); got != want {
			t.Fatalf("the view from %v of level %d of %v is %d, not %d", p, level, h, got, want)
		}
	}
}

// P3: also after other calls, and beside them; halls stay as they are.
func TestIndependence(t *testing.T) {
	random := rand.New(rand.NewPCG(9, 14))
	type call struct {
		c     crossing
		h     api.Hall
		p     api.Point
		cross bool
		view  int
	}
	var calls []call
	for range 2000 {
		h, p := randomHall(random)
		c := randomCrossing(random)
		copied := copyOf(h)
		calls = append(calls, call{c, h, p, c.crosses(), sight.View(h, 0, p)})
		if !reflect.DeepEqual(h, copied) {
			t.Fatalf("View changed %v to %v", copied, h)
		}
	}
	var all sync.WaitGroup
	for range 4 {
		all.Go(func() {
			for i := range calls {
				k := &calls[len(calls)-1-i]
				if k.c.crosses() != k.cross || sight.View(copyOf(k.h), 0, k.p) != k.view {
					t.Errorf("equal arguments have other results: %v", *k)
				}
			}
		})
	}
	all.Wait()
}

func wantCrosses(t *testing.T, c crossing, want bool) {
	t.Helper()
	if got := c.crosses(); got != want {
		t.Fatalf("Crosses of %v and %v, rectangle %v, is %v", c.a, c.b, c.x, got)
	}
}

// wantView is about the level 0.
func wantView(t *testing.T, h api.Hall, p api.Point, want int) {
	t.Helper()
	wantSame(t, h, 0, p, want)
}

func wantSame(t *testing.T, h api.Hall, level int, p api.Point, want int) {
	t.Helper()
	if got := sight.View(h, level, p); got != want {
		t.Fatalf("the view from %v of level %d of %v is %d, not %d", p, level, h, got, want)
	}
}

// hallOf returns a hall with one level.
func hallOf(stage api.Point, height int, pillars ...api.Box) api.Hall {
	return api.Hall{Stage: stage, Levels: []api.Level{{Height: height, Pillars: pillars}}}
}

func copyOf(h api.Hall) api.Hall {
	h.Levels = slices.Clone(h.Levels)
	for i := range h.Levels {
		h.Levels[i].Pillars = slices.Clone(h.Levels[i].Pillars)
	}
	return h
}
