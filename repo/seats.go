package repo

import (
	"slices"

	"verdict/api"
)

// heard tells the reply to a command that comes again, or too late, and whether it is one of these.
func heard(seats []api.Seat, c api.Cmd) (api.Reply, bool) {
	at := seatAt(seats, c.Session)
	if at < 0 || c.Seq > seats[at].Seq {
		return api.Reply{}, false
	}
	if c.Seq < seats[at].Seq {
		return refused(api.ErrOld), true
	}
	return seats[at].Reply, true
}

// seated is seats with this one at its end, in place of the one that its session may have.
func seated(seats []api.Seat, s api.Seat) []api.Seat {
	if at := seatAt(seats, s.Session); at >= 0 {
		seats = slices.Delete(seats, at, at+1)
	}
	return pushed(seats, s, api.MaxSeats)
}

// seatAt is where the session's seat is, below 0 if it has none.
func seatAt(seats []api.Seat, session int) int {
	return slices.IndexFunc(seats, func(s api.Seat) bool { return s.Session == session })
}

// pushed is l with one more at its end, without its first one, if there are more than most then.
func pushed[E any](l []E, one E, most int) []E {
	l = append(l, one)
	if len(l) > most {
		l = slices.Delete(l, 0, 1)
	}
	return l
}
