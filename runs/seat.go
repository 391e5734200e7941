package runs

import "foyer/api"

// A seat is a place of a list, with its index.
type seat struct {
	index int
	place *api.Place
}

func seatAt(l []api.Place, i int) seat {
	return seat{index: i, place: &l[i]}
}

// beside reports whether two places of an ordered list, of which the first comes first, are neighbours.
func (s seat) beside(next seat) bool {
	a, b := s.place, next.place
	// The order makes b.Seat the greater number in one row, so that a difference that wraps around is never 1.
	return isSeat(*a) && a.Level == b.Level && a.Block == b.Block && a.Row == b.Row && b.Seat-a.Seat == 1
}

// freeSeats returns the seats of a list that are not taken.
func freeSeats(l []api.Place, taken func(i int) bool) []seat {
	var free []seat
	for i := range l {
		if isSeat(l[i]) && !taken(i) {
			free = append(free, seatAt(l, i))
		}
	}
	return free
}

func indicesOf(seats []seat) []int {
	indices := make([]int, len(seats))
	for i := range seats {
		indices[i] = seats[i].index
	}
	return indices
}
