package hall

import (
	"slices"

	"foyer/api"
)

// A placedRow is a row's offset and the points of its places.
type placedRow struct {
	at     int
	points []api.Point
}

// A mutualChecker collects the faults of several things; of the level that it is at, it knows the reached aisles, the rows and areas so far, and which rows have a place at a point.
type mutualChecker struct {
	faults  []api.Fault
	level   api.Level
	reached []api.Box
	rows    []placedRow
	areas   []api.Area
	rowsAt  map[api.Point][]int
}

// mutualFaults returns the faults of several things of a plan whose single things have none.
func mutualFaults(h api.Hall) []api.Fault {
	c := &mutualChecker{}
	walk(h, c.check)
	return c.faults
}

func (c *mutualChecker) check(t thing) {
	switch {
	case t.level != nil:
		c.enter(*t.level)
	case t.row != nil:
		c.row(*t.row)
	case t.area != nil:
		c.area(*t.area)
	}
}

func (c *mutualChecker) add(err api.Errno, at, other int) {
	c.faults = append(c.faults, api.Fault{Err: err, At: at, Other: other})
}

func (c *mutualChecker) enter(l api.Level) {
	*c = mutualChecker{faults: c.faults, level: l, rowsAt: map[api.Point][]int{}}
	for i, reached := range Reached(l) {
		if reached {
			c.reached = append(c.reached, l.Aisles[i])
		}
	}
}

func (c *mutualChecker) row(r api.Row) {
	row := placedRow{at: r.At}
	for _, seat := range seatsOf(r) {
		row.points = append(row.points, api.Point{X: seat.X, Y: seat.Y})
	}
	for _, earlier := range c.rowsWithOneOf(row.points) {
		c.add(api.ErrOverlap, r.At, c.rows[earlier].at)
	}
	if slices.ContainsFunc(row.points, c.isBlocked) {
		c.add(api.ErrOverlap, r.At, nowhere)
	}
	if !c.isReached(boxOf(seatPoint(r, r.From-1))) && !c.isReached(boxOf(seatPoint(r, r.To+1))) {
		c.add(api.ErrReach, r.At, nowhere)
	}
	for _, p := range row.points {
		c.rowsAt[p] = append(c.rowsAt[p], len(c.rows))
	}
	c.rows = append(c.rows, row)
}

func (c *mutualChecker) area(a api.Area) {
	isInside := func(p api.Point) bool { return meet(a.Box, boxOf(p)) }
	for _, row := range c.rows {
		if slices.ContainsFunc(row.points, isInside) {
			c.add(api.ErrOverlap, a.At, row.at)
		}
	}
	for _, earlier := range c.areas {
		if meet(a.Box, earlier.Box) {
			c.add(api.ErrOverlap, a.At, earlier.At)
		}
	}
	if !c.isReached(a.Box) {
		c.add(api.ErrReach, a.At, nowhere)
	}
	c.areas = append(c.areas, a)
}

// rowsWithOneOf returns the indices of the rows so far that have a place at one of the points, in order.
func (c *mutualChecker) rowsWithOneOf(points []api.Point) []int {
	var rows []int
	for _, p := range points {
		rows = append(rows, c.rowsAt[p]...)
	}
	slices.Sort(rows)
	return slices.Compact(rows)
}

// isBlocked reports whether a point is in a pillar or an aisle.
func (c *mutualChecker) isBlocked(p api.Point) bool {
	return meetsOne(c.level.Pillars, boxOf(p)) || meetsOne(c.level.Aisles, boxOf(p))
}

func (c *mutualChecker) isReached(b api.Box) bool { return meetsOne(c.reached, b) }

func meetsOne(boxes []api.Box, b api.Box) bool {
	return slices.ContainsFunc(boxes, func(other api.Box) bool { return meet(other, b) })
}
