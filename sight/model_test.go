package sight_test

import (
	"math/rand/v2"

	"foyer/api"
)

// plainCrosses looks at the ends of the line, and at the points in which it meets the lines that the sides of the rectangle lie on: if it has a point in the rectangle, one of these is in it.
func plainCrosses(c crossing) bool {
	for _, n := range c.numbers() {
		if *n < 0 || *n > 10000 {
			return false
		}
	}
	dx, dy := c.b.X-c.a.X, c.b.Y-c.a.Y
	// in tells whether the point that is n / d of the way from a to b is in the rectangle.
	in := func(n, d int) bool {
		if d < 0 {
			n, d = -n, -d
		}
		if d == 0 || n < 0 || n > d {
			return false
		}
		x, y := c.a.X*d+n*dx, c.a.Y*d+n*dy
		return c.x.X*d <= x && x <= c.x.X2*d && c.x.Y*d <= y && y <= c.x.Y2*d
	}
	return in(0, 1) || in(1, 1) || in(c.x.X-c.a.X, dx) || in(c.x.X2-c.a.X, dx) || in(c.x.Y-c.a.Y, dy) || in(c.x.Y2-c.a.Y, dy)
}

func plainView(h api.Hall, level int, p api.Point) int {
	if level < 0 || level > len(h.Levels)-1 {
		return 3
	}
	l := h.Levels[level]
	for _, n := range []int{p.X, p.Y, h.Stage.X, h.Stage.Y, l.Height} {
		if n < 0 || n > 10000 {
			return 3
		}
	}
	view := 0
	square := (p.X-h.Stage.X)*(p.X-h.Stage.X) + (p.Y-h.Stage.Y)*(p.Y-h.Stage.Y) + l.Height*l.Height
	if square > 9000000 {
		view = 2
	} else if square > 1000000 {
		view = 1
	}
	for _, pillar := range l.Pillars {
		if plainCrosses(crossing{p, h.Stage, pillar}) {
			view++
		}
	}
	return min(3, view)
}

// coordinate returns a coordinate: a small one, one near the greatest, or any.
func coordinate(random *rand.Rand) int {
	switch random.IntN(4) {
	case 0:
		return random.IntN(6)
	case 1:
		return 10000 - random.IntN(6)
	}
	return random.IntN(10001)
}

// randomCrossing returns a line and a rectangle with coordinates, often one that lies close to the line.
func randomCrossing(random *rand.Rand) crossing {
	c := crossing{point(coordinate(random), coordinate(random)), point(coordinate(random), coordinate(random)), randomBox(random)}
	if random.IntN(8) == 0 {
		c.b = c.a
	}
	if random.IntN(3) > 0 {
		c.x = closeBox(random, c.a, c.b)
	}
	return c
}

func randomBox(random *rand.Rand) api.Box {
	return box(coordinate(random), coordinate(random), coordinate(random), coordinate(random))
}

// closeBox returns a rectangle with a corner next to the line, and often small.
func closeBox(random *rand.Rand, a, b api.Point) api.Box {
	way := random.IntN(1001)
	size := []int{1, 3, 100, 10000}[random.IntN(4)]
	side := func(from, to int) (int, int) {
		at := clamp(from + (to-from)*way/1000 + random.IntN(5) - 2)
		other := clamp(at + random.IntN(2*size+1) - size)
		if random.IntN(20) == 0 {
			return max(at, other), min(at, other)
		}
		return min(at, other), max(at, other)
	}
	x, x2 := side(a.X, b.X)
	y, y2 := side(a.Y, b.Y)
	return box(x, y, x2, y2)
}

func clamp(n int) int { return max(0, min(10000, n)) }

// randomHall returns a hall with up to three levels, and a point in it that is often not far from the stage.
func randomHall(random *rand.Rand) (api.Hall, api.Point) {
	h := api.Hall{Stage: point(coordinate(random), coordinate(random))}
	p := point(coordinate(random), coordinate(random))
	if far := []int{100, 1000, 3000, 10000}[random.IntN(4)]; far < 10000 {
		p = point(clamp(h.Stage.X+random.IntN(2*far+1)-far), clamp(h.Stage.Y+random.IntN(2*far+1)-far))
	}
	for range 1 + random.IntN(3) {
		l := api.Level{Height: random.IntN([]int{1, 1000, 4000, 10001}[random.IntN(4)])}
		for range random.IntN(5) {
			if random.IntN(2) == 0 {
				l.Pillars = append(l.Pillars, randomBox(random))
			} else {
				l.Pillars = append(l.Pillars, closeBox(random, p, h.Stage))
			}
		}
		h.Levels = append(h.Levels, l)
	}
	return h, p
}
