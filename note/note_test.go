package note_test

import (
	"strings"
	"testing"

	"continuo/api"
	"continuo/note"
)

// Events: what is valid of each kind, also at the bounds.
func TestValid(t *testing.T) {
	for _, x := range examples() {
		for _, frame := range []int{0, 1, api.MaxTime} {
			x.note.Frame = frame
			if !note.Valid(x.note) {
				t.Errorf("Valid(%v) is false", x.note)
			}
		}
	}
	for _, n := range wrongNotes() {
		if note.Valid(n) {
			t.Errorf("Valid(%v) is true", n)
		}
	}
}

// Events: each number of each kind, one by one.
func TestValidNumbers(t *testing.T) {
	for kind := api.NOff; kind <= api.NBend; kind++ {
		for n := range 130 {
			one := kind == api.NProgram || kind == api.NTouch
			b := 1
			if one {
				b = 0
			}
			if got := note.Valid(api.Note{Kind: kind, A: n, B: b}); got != (n < 128) {
				t.Errorf("kind %d: Valid with A %d = %v", kind, n, got)
			}
			want := n < 128 && (n > 0 || kind != api.NOn) && (n == 0 || !one)
			if got := note.Valid(api.Note{Kind: kind, A: 5, B: n}); got != want {
				t.Errorf("kind %d: Valid with B %d = %v", kind, n, got)
			}
			if got := note.Valid(api.Note{Kind: kind, Channel: n, B: b}); got != (n < 16) {
				t.Errorf("kind %d: Valid with channel %d = %v", kind, n, got)
			}
		}
	}
	for n := range 256 {
		if got := note.Valid(clock(0, n)); got != (n < 8) {
			t.Errorf("Valid of a clock %d = %v", n, got)
		}
		if got := note.Valid(system(0, "a"+string([]byte{byte(n)}))); got != (n < 128) {
			t.Errorf("Valid of a text with %x = %v", n, got)
		}
		if got := note.Valid(system(0, strings.Repeat("a", n))); got != (n <= textMost) {
			t.Errorf("Valid of a text of %d bytes = %v", n, got)
		}
	}
}

// Same is equality, in each field.
func TestSame(t *testing.T) {
	base := api.Note{Frame: 1, Kind: 2, Channel: 3, A: 4, B: 5, Text: "a"}
	if !note.Same(base, api.Note{Frame: 1, Kind: 2, Channel: 3, A: 4, B: 5, Text: strings.ToLower("A")}) {
		t.Error("Same of equal ones is false")
	}
	for _, change := range []func(n *api.Note){
		func(n *api.Note) { n.Frame = 0 },
		func(n *api.Note) { n.Kind = 1 },
		func(n *api.Note) { n.Channel = 0 },
		func(n *api.Note) { n.A = 5 },
		func(n *api.Note) { n.B = 4 },
		func(n *api.Note) { n.Text = "" },
	} {
		other := base
		change(&other)
		if note.Same(base, other) || note.Same(other, base) {
			t.Errorf("Same(%v, %v) is true", base, other)
		}
	}
	for _, x := range examples() {
		for _, y := range examples() {
			if got := note.Same(x.note, y.note); got != (x.bytes == y.bytes) {
				t.Errorf("Same(%v, %v) = %v", x.note, y.note, got)
			}
		}
	}
}

// Errors: an event that is not valid, wherever it stands, and more than 2,000 events are ErrInvalid, ahead of all else.
func TestInvalid(t *testing.T) {
	right := []api.Note{on(0, 0, 60, 1)}
	for _, l := range wrongLists() {
		for _, n := range []int{0, -1, 16, api.MaxTime + 1} {
			writesNot(t, "Encode", api.ErrInvalid)(note.Encode(l, n == 0))
			writesNot(t, "Pack", api.ErrInvalid)(note.Pack(l))
			refuses(t, "Sort", api.ErrInvalid)(note.Sort(l))
			refuses(t, "Merge", api.ErrInvalid)(note.Merge([][]api.Note{l}))
			refuses(t, "Merge", api.ErrInvalid)(note.Merge([][]api.Note{right, backwards(), l, right}))
			refuses(t, "Shift", api.ErrInvalid)(note.Shift(l, n))
			refuses(t, "Channel", api.ErrInvalid)(note.Channel(l, n))
			refuses(t, "Map", api.ErrInvalid)(note.Map(l, n, n, n))
			refuses(t, "Hanging", api.ErrInvalid)(note.Hanging(l))
			refuses(t, "End", api.ErrInvalid)(note.End(l, n))
			refuses(t, "Held", api.ErrInvalid)(note.Held(l, n))
			part, rest, e := note.Split(l, n, n)
			refuses(t, "Split", api.ErrInvalid)(append(part, rest...), e)
		}
	}
}

// Errors: lists of 2,000 events are not too long.
func TestMost(t *testing.T) {
	var l []api.Note
	for i := range noteMost {
		l = append(l, on(i, i/128, i%128, 1))
	}
	gives(t, "Sort", l...)(note.Sort(l))
	gives(t, "Merge", l...)(note.Merge([][]api.Note{l[:1000], l[1000:]}))
	gives(t, "Shift", l...)(note.Shift(l, 0))
	gives(t, "Channel", l[:128]...)(note.Channel(l, 0))
	gives(t, "Map", l...)(note.Map(l, 0, 0, 0))
	gives(t, "Hanging", l...)(note.Hanging(l))
	gives(t, "Held", l...)(note.Held(l, api.MaxTime))
	if part, rest, e := note.Split(l, 0, noteMost); len(part) != noteMost || len(rest) != 0 || e != api.OK {
		t.Errorf("Split = %d, %d, %d", len(part), len(rest), e)
	}
	if out, e := note.End(l, noteMost); len(out) != 2*noteMost || e != api.OK {
		t.Errorf("End = %d, %d", len(out), e)
	}
	s, e := note.Encode(l, true)
	if back, _, f := note.Decode(s); len(back) != noteMost || e != api.OK || f != api.OK {
		t.Errorf("Decode = %d, %d, %d", len(back), e, f)
	}
	s, e = note.Pack(l)
	if back, _, f := note.Unpack(s); len(back) != noteMost || e != api.OK || f != api.OK {
		t.Errorf("Unpack = %d, %d, %d", len(back), e, f)
	}
}
