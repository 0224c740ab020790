package note

import (
	"cmp"
	"maps"
	"slices"

	"continuo/api"
)

// halfway is how fast a key is let go by End.
const halfway = 64

// key is a key of a channel.
type key struct{ channel, a int }

// pressed returns, for each key that is on behind a list, where its last On stands.
func pressed(l []api.Note) map[key]int {
	out := map[key]int{}
	for i, n := range l {
		switch n.Kind {
		case api.NOn:
			out[key{n.Channel, n.A}] = i
		case api.NOff:
			delete(out, key{n.Channel, n.A})
		}
	}
	return out
}

// hanging are the events by which keys are on behind a list, in its order.
func hanging(l []api.Note) []api.Note {
	var out []api.Note
	for _, i := range slices.Sorted(maps.Values(pressed(l))) {
		out = append(out, l[i])
	}
	return out
}

// byKey are they by channel, then key.
func byKey(l []api.Note) []api.Note {
	return slices.SortedFunc(slices.Values(hanging(l)), func(a, b api.Note) int {
		return cmp.Or(cmp.Compare(a.Channel, b.Channel), cmp.Compare(a.A, b.A))
	})
}

// Hanging returns the On events that no Off follows, in their order.
func Hanging(l []api.Note) ([]api.Note, api.Errno) {
	return fitted(func() []api.Note {
		mustBeNotes(l)
		mustBeSorted(l)
		return hanging(l)
	})
}

// End returns the list with an Off at a frame for each On that hangs.
func End(l []api.Note, frame int) ([]api.Note, api.Errno) {
	return fitted(func() []api.Note {
		mustBeNotes(l)
		must(isFrame(frame), api.ErrRange)
		must(len(l) == 0 || frame >= l[len(l)-1].Frame, api.ErrRange)
		mustBeSorted(l)
		out := slices.Clone(l)
		for _, n := range byKey(l) {
			out = append(out, api.Note{Frame: frame, Kind: api.NOff, Channel: n.Channel, A: n.A, B: halfway})
		}
		return out
	})
}

// Held returns the On events that are on at a frame, by channel, then key.
func Held(l []api.Note, frame int) ([]api.Note, api.Errno) {
	return fitted(func() []api.Note {
		mustBeNotes(l)
		must(isFrame(frame), api.ErrRange)
		mustBeSorted(l)
		return byKey(kept(l, func(n api.Note) bool { return n.Frame <= frame }))
	})
}
