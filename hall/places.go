package hall

import (
	"foyer/api"
	"foyer/sight"
)

const (
	alone      = -1 // With of a place that belongs to no other one
	hiddenView = 2  // the best view from a seat with a restricted view
)

// A builder makes the places of a plan without faults.
type builder struct {
	hall   api.Hall
	places []api.Place
}

func placesOf(h api.Hall) []api.Place {
	b := &builder{hall: h}
	walk(h, b.add)
	return b.places
}

// add adds the places of a row or an area.
func (b *builder) add(t thing) {
	switch {
	case t.row != nil:
		b.addAll(t, seatsOf(*t.row))
	case t.area != nil:
		b.addAll(t, standsOf(*t.area))
	}
}

// addAll adds the places of a thing, whose With are indices among themselves.
func (b *builder) addAll(t thing, places []api.Place) {
	first := len(b.places)
	for _, place := range places {
		place.Level, place.Block, place.Row = t.levelIndex, t.blockIndex, t.rowIndex
		place.View = max(place.View, sight.View(b.hall, t.levelIndex, api.Point{X: place.X, Y: place.Y}))
		if place.With != alone {
			place.With += first
		}
		b.places = append(b.places, place)
	}
}

// seatsOf returns the places of a row: With is an index among them, and View the best view that the marks permit.
func seatsOf(r api.Row) []api.Place {
	var places []api.Place
	marks := marksOf(r)
	indices := map[int]int{}
	for seat := r.From; seat <= r.To; seat++ {
		if marks[seat].Kind != api.MarkGap {
			indices[seat] = len(places)
			places = append(places, seatOf(r, seat, marks[seat].Kind))
		}
	}
	for i := range places {
		if places[i].Kind == api.PlaceBeside {
			join(places, i, indices[marks[places[i].Seat].With])
		}
	}
	return places
}

func seatOf(r api.Row, seat, mark int) api.Place {
	point := seatPoint(r, seat)
	place := api.Place{Kind: api.PlaceSeat, Seat: seat, X: point.X, Y: point.Y, With: alone}
	switch mark {
	case api.MarkWheel:
		place.Kind = api.PlaceWheel
	case api.MarkBeside:
		place.Kind = api.PlaceBeside
	case api.MarkHidden:
		place.View = hiddenView
	}
	return place
}

// join makes a companion's seat and a wheelchair place belong together; the wheelchair place stays with an earlier companion's seat.
func join(places []api.Place, companion, wheel int) {
	places[companion].With = wheel
	if places[wheel].With == alone {
		places[wheel].With = companion
	}
}

// standsOf returns the places of an area, all in its middle.
func standsOf(a api.Area) []api.Place {
	places := make([]api.Place, a.Holds)
	for i := range places {
		places[i] = api.Place{Kind: api.PlaceStand, Seat: i + 1, X: (a.Box.X + a.Box.X2) / 2, Y: (a.Box.Y + a.Box.Y2) / 2, With: alone}
	}
	return places
}

// countPlaces returns how many places the rows and areas of a plan have whose single things have no faults.
func countPlaces(h api.Hall) int {
	count := 0
	walk(h, func(t thing) {
		switch {
		case t.row != nil:
			count += len(seatsOf(*t.row))
		case t.area != nil:
			count += t.area.Holds
		}
	})
	return count
}
