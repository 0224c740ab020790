package note_test

import (
	"math"
	"slices"
	"testing"

	"continuo/api"
	"continuo/note"
)

// 10.4: Hanging are the On events that no Off of their key and channel follows, in order.
func TestHanging(t *testing.T) {
	l := []api.Note{on(0, 0, 60, 1), on(1, 0, 60, 2), on(2, 0, 64, 1), off(3, 0, 64, 0), on(4, 0, 50, 9)}
	gives(t, "Hanging", l[1], l[4])(note.Hanging(l))
	gives(t, "Hanging")(note.Hanging(nil))
	for _, c := range []struct {
		last api.Note
		ends bool
	}{
		{off(9, 1, 60, 0), true}, {off(5, 1, 60, 127), true}, {on(9, 1, 60, 2), false},
		{off(9, 2, 60, 0), false}, {off(9, 1, 61, 0), false}, {off(9, 60, 1, 0), false},
		{api.Note{Frame: 9, Kind: api.NPress, Channel: 1, A: 60}, false}, {api.Note{Frame: 9, Kind: api.NControl, Channel: 1, A: 60}, false},
		{clock(9, 0), false}, {system(9, ""), false},
	} {
		l := []api.Note{off(0, 1, 60, 0), on(5, 1, 60, 1), c.last}
		if c.last.Channel > 15 {
			l[2] = off(9, 15, 1, 0)
		}
		want := l[1:2]
		switch {
		case c.ends:
			want = nil
		case c.last.Kind == api.NOn:
			want = l[2:]
		}
		gives(t, "Hanging", want...)(note.Hanging(l))
	}
}

// 10.4: whatever is on, Hanging, End and Held tell it as the chapter does.
func TestKeys(t *testing.T) {
	for seed := range 2000 {
		d := draws(seed)
		l := sorted(d.notes(d.below(40)))
		want := hanging(l)
		gives(t, "Hanging", want...)(note.Hanging(l))
		frame := 11 + d.below(3)
		ended := slices.Clone(l)
		for _, n := range byKey(want) {
			ended = append(ended, off(frame, n.Channel, n.A, 64))
		}
		gives(t, "End", ended...)(note.End(l, frame))
		for frame := range 13 {
			var until []api.Note
			for _, n := range l {
				if n.Frame <= frame {
					until = append(until, n)
				}
			}
			gives(t, "Held", byKey(hanging(until))...)(note.Held(l, frame))
		}
	}
}

// 10.4: End's Offs are by channel, then key, at a frame that may be the last one's.
func TestEnd(t *testing.T) {
	l := []api.Note{on(0, 3, 1, 1), on(1, 0, 127, 2), on(2, 3, 0, 3), on(3, 0, 2, 4), on(4, 15, 0, 5), clock(6, 0)}
	for _, frame := range []int{6, 7, api.MaxTime} {
		gives(t, "End", append(slices.Clone(l), off(frame, 0, 2, 64), off(frame, 0, 127, 64), off(frame, 3, 0, 64),
			off(frame, 3, 1, 64), off(frame, 15, 0, 64))...)(note.End(l, frame))
	}
	gives(t, "End")(note.End(nil, 0))
	gives(t, "End")(note.End(nil, api.MaxTime))
	silent := []api.Note{on(0, 0, 60, 1), off(2, 0, 60, 0)}
	gives(t, "End", silent...)(note.End(silent, 2))
}

// 10.4, Details: a frame below the last one's, or beyond the bounds, is ErrRange, ahead of ErrState.
func TestEndErrors(t *testing.T) {
	l := []api.Note{on(0, 0, 60, 1), on(7, 0, 61, 1)}
	for _, frame := range append(extremes(), 0, 6) {
		refuses(t, "End", api.ErrRange)(note.End(l, frame))
		refuses(t, "End", api.ErrRange)(note.End(backwards(), frame))
	}
	for _, frame := range extremes() {
		refuses(t, "End", api.ErrRange)(note.End(nil, frame))
	}
	refuses(t, "End", api.ErrState)(note.End(backwards(), 8))
	refuses(t, "End", api.ErrState)(note.End(backwards(), api.MaxTime))
}

// 10.4: Held are the On events that are on at a frame: those at it count, an Off at it too.
func TestHeld(t *testing.T) {
	l := []api.Note{on(2, 1, 60, 1), on(2, 0, 90, 1), on(4, 0, 5, 1), on(5, 1, 60, 9), off(6, 0, 90, 0), off(8, 1, 60, 0), on(8, 1, 60, 7)}
	for _, c := range []struct {
		frames []int
		want   []api.Note
	}{
		{[]int{0, 1}, nil},
		{[]int{2, 3}, []api.Note{l[1], l[0]}},
		{[]int{4}, []api.Note{l[2], l[1], l[0]}},
		{[]int{5}, []api.Note{l[2], l[1], l[3]}},
		{[]int{6, 7}, []api.Note{l[2], l[3]}},
		{[]int{8, 9, 1000, api.MaxTime}, []api.Note{l[2], l[6]}},
	} {
		for _, frame := range c.frames {
			gives(t, "Held", c.want...)(note.Held(l, frame))
			gives(t, "Held")(note.Held(nil, frame))
		}
	}
	gives(t, "Held")(note.Held([]api.Note{on(3, 0, 60, 1), off(3, 0, 60, 1)}, 3))
}

// Errors: Held's ErrRange is ahead of its ErrState; Hanging has ErrState.
func TestHeldErrors(t *testing.T) {
	for _, frame := range append(extremes(), math.MinInt+7) {
		refuses(t, "Held", api.ErrRange)(note.Held(nil, frame))
		refuses(t, "Held", api.ErrRange)(note.Held(backwards(), frame))
	}
	for _, frame := range []int{0, 5, 8, 9, api.MaxTime} {
		refuses(t, "Held", api.ErrState)(note.Held(backwards(), frame))
	}
	refuses(t, "Hanging", api.ErrState)(note.Hanging(backwards()))
}
