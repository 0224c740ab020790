package note_test

import (
	"slices"
	"strings"
	"testing"

	"continuo/api"
	"continuo/note"
)

var mark = api.Note{Frame: 77, Kind: 77, Text: "mark"}

// roomy returns a list that shares nothing with l, and has room to spare, with marks in it.
func roomy(l []api.Note) []api.Note {
	out := append(make([]api.Note, 0, len(l)+5), l...)
	spoil(out[len(l):])
	return out
}

// spoil writes over a list, its room to spare too.
func spoil(l []api.Note) {
	all := l[:cap(l)]
	for i := range all {
		all[i] = mark
	}
}

// unspoilt reports whether a list and its room to spare are as roomy made them of l.
func unspoilt(got, l []api.Note) bool {
	spare := got[len(got):cap(got)]
	return slices.Equal(got, l) && !slices.ContainsFunc(spare, func(n api.Note) bool { return n != mark })
}

// some is a list of which each call makes something.
func some() []api.Note {
	return []api.Note{on(1, 0, 60, 1), clock(1, 2), on(2, 3, 61, 1), system(2, "a"), off(3, 3, 61, 0), on(9, 0, 50, 1)}
}

// listCalls are the calls that make a list of one.
func listCalls() map[string]func(l []api.Note) ([]api.Note, api.Errno) {
	return map[string]func(l []api.Note) ([]api.Note, api.Errno){
		"Sort":    note.Sort,
		"Merge":   func(l []api.Note) ([]api.Note, api.Errno) { return note.Merge([][]api.Note{l}) },
		"Shift":   func(l []api.Note) ([]api.Note, api.Errno) { return note.Shift(l, 3) },
		"Shift 0": func(l []api.Note) ([]api.Note, api.Errno) { return note.Shift(l, 0) },
		"Channel": func(l []api.Note) ([]api.Note, api.Errno) { return note.Channel(l, 0) },
		"Map":     func(l []api.Note) ([]api.Note, api.Errno) { return note.Map(l, 0, 5, 12) },
		"Map 0":   func(l []api.Note) ([]api.Note, api.Errno) { return note.Map(l, 7, 7, 0) },
		"Hanging": note.Hanging,
		"End":     func(l []api.Note) ([]api.Note, api.Errno) { return note.End(l, 10) },
		"Held":    func(l []api.Note) ([]api.Note, api.Errno) { return note.Held(l, 10) },
		"part": func(l []api.Note) ([]api.Note, api.Errno) {
			part, _, e := note.Split(l, 0, 100)
			return part, e
		},
		"rest": func(l []api.Note) ([]api.Note, api.Errno) {
			_, rest, e := note.Split(l, 0, 0)
			return rest, e
		},
	}
}

// P10.1, R4: lists that are handed in stay what they are, with their room to spare; results are new memory.
func TestFresh(t *testing.T) {
	for what, call := range listCalls() {
		l := roomy(some())
		got, e := call(l)
		if len(got) == 0 || e != api.OK || !unspoilt(l, some()) {
			t.Errorf("%s = %v, %d, of %v", what, got, e, l)
		}
		want := slices.Clone(got)
		spoil(got)
		if !unspoilt(l, some()) {
			t.Errorf("%s gives memory of its list", what)
		}
		again, _ := call(l)
		spoil(l)
		if !slices.Equal(again, want) {
			t.Errorf("%s shares memory with its list: %v, not %v", what, again, want)
		}
	}
	l := roomy(some())
	for _, running := range []bool{false, true} {
		writes(t, "Encode", encoded(some(), running))(note.Encode(l, running))
	}
	writes(t, "Pack", packed(some()))(note.Pack(l))
	if !unspoilt(l, some()) {
		t.Errorf("what was written is %v", l)
	}
}

// P10.1, R4: Split's part and rest share no memory.
func TestFreshSplit(t *testing.T) {
	l := roomy(some())
	part, rest, _ := note.Split(l, 0, 2)
	want := slices.Clone(rest)
	spoil(append(part, mark, mark, mark))
	spoil(part)
	if !slices.Equal(rest, want) || !unspoilt(l, some()) {
		t.Errorf("the rest is %v, the list %v", rest, l)
	}
	part, rest, _ = note.Split(l, 0, 2)
	want = slices.Clone(part)
	spoil(rest)
	if !slices.Equal(part, want) || !unspoilt(l, some()) {
		t.Errorf("the part is %v, the list %v", part, l)
	}
}

// P10.1, R4: Merge leaves all lists, and the list of them, as they are.
func TestFreshMerge(t *testing.T) {
	a, b := roomy(some()), roomy(some()[2:])
	lists := append(make([][]api.Note, 0, 9), nil, a, []api.Note{}, b)
	spare := lists[4:9]
	spare[0] = roomy(nil)
	got, e := note.Merge(lists)
	if len(got) != 10 || e != api.OK {
		t.Fatalf("Merge = %v, %d", got, e)
	}
	spoil(got)
	if !unspoilt(a, some()) || !unspoilt(b, some()[2:]) {
		t.Errorf("the lists are %v, %v", a, b)
	}
	if lists[0] != nil || lists[2] == nil || &lists[1][0] != &a[0] || len(lists[1]) != 6 || &lists[3][0] != &b[0] || len(lists[3]) != 4 {
		t.Errorf("the list of lists is %v", lists)
	}
	if len(spare[0]) != 0 || cap(spare[0]) != 5 || spare[1] != nil {
		t.Errorf("its room to spare is %v", spare)
	}
}

// P10.1, R4: what is read is new memory, and a reader keeps none of it.
func TestFreshRead(t *testing.T) {
	s := encoded(some(), true)
	first, _, _ := note.Decode(s)
	spoil(first)
	zero := some()
	for i := range zero {
		zero[i].Frame = 0
	}
	reads(t, "Decode", zero, -1)(note.Decode(s))
	whole := packed(some())
	first, _, _ = note.Unpack(whole)
	spoil(first)
	reads(t, "Unpack", some(), -1)(note.Unpack(whole))

	r, other := note.NewReader(), note.NewReader()
	l := fed(t, r, 4, s+"\xf0ab")
	old := slices.Clone(l)
	later := fed(t, r, 5, "cd\xf7\xf0xyzuv\xf7\x90\x01\x02")
	if !slices.Equal(l, old) || !slices.Equal(later, []api.Note{system(5, "abcd"), system(5, "xyzuv"), on(5, 0, 1, 2)}) {
		t.Errorf("Feed = %v, then %v", l, later)
	}
	spoil(l)
	spoil(later)
	gives(t, "Feed", on(6, 0, 3, 4))(r.Feed(6, "\x03\x04"))
	agree(t, other, 0, 0)
	gives(t, "Feed")(other.Feed(0, "\x03\x04"))
	agree(t, other, 0, 2)
}

// R4: a nil list and an empty one are alike.
func TestNothing(t *testing.T) {
	for _, l := range [][]api.Note{nil, {}} {
		for what, call := range listCalls() {
			gives(t, what)(call(l))
		}
		writes(t, "Encode", "")(note.Encode(l, false))
		writes(t, "Pack", "")(note.Pack(l))
	}
}

// R7: the same calls tell the same, in whatever order a map has its keys.
func TestAgain(t *testing.T) {
	var l []api.Note
	for i := range noteMost {
		l = append(l, on(i/3, i*5%16, i*37%128, 1))
	}
	hang, _ := note.Hanging(l)
	held, _ := note.Held(l, 400)
	ended, _ := note.End(l, 1000)
	for range 5 {
		gives(t, "Hanging", hang...)(note.Hanging(l))
		gives(t, "Held", held...)(note.Held(l, 400))
		gives(t, "End", ended...)(note.End(l, 1000))
	}
}

// P10.1, R1, R3: every call ends, and none panics, whatever it is given; with an error there is nothing else.
func TestAllCallsEnd(t *testing.T) {
	numbers := append(extremes(), 0, 1, 15, 16, 127, 128, 200, 1000, api.MaxTime)
	lists := [][]api.Note{nil, some(), mixed(), backwards(), {{}}, wrongLists()[0], wrongNotes()}
	quiet := func(l []api.Note, e api.Errno) {
		t.Helper()
		if e != api.OK && len(l) != 0 {
			t.Errorf("%d events with the error %d", len(l), e)
		}
	}
	for _, l := range lists {
		for _, a := range numbers {
			quiet(note.Shift(l, a))
			quiet(note.Channel(l, a))
			quiet(note.End(l, a))
			quiet(note.Held(l, a))
			for _, b := range numbers {
				part, rest, e := note.Split(l, a, b)
				quiet(append(part, rest...), e)
				for _, c := range numbers {
					quiet(note.Map(l, a, b, c))
					note.Valid(api.Note{Frame: c, Kind: a, Channel: b, A: c, B: a, Text: "\xff"})
				}
			}
			for _, r := range []*note.Reader{nil, {}, note.NewReader()} {
				for _, s := range []string{"", "\x00", "\xff\xf7\xf0\x80", strings.Repeat("\xf0", byteMost), strings.Repeat("\x90", byteMost+1)} {
					quiet(r.Feed(a, s))
					r.Pending()
					r.Skipped()
				}
			}
		}
		quiet(note.Merge([][]api.Note{l, some(), l}))
	}
	for _, b := range []string{"\x00", "\x80", "\x81", "\x90", "\xf0", "\xf7", "\xf8", "\xff"} {
		for _, n := range []int{1, 5, 300, byteMost, byteMost + 1, 1 << 20} {
			s := strings.Repeat(b, n)
			if l, at, e := note.Decode(s); e != api.ErrData && e != api.OK && (len(l) != 0 || at != 0) {
				t.Errorf("Decode = %d events, %d, %d", len(l), at, e)
			}
			if l, at, e := note.Unpack(s); e != api.OK && len(l) != 0 || e != api.ErrData && at != 0 {
				t.Errorf("Unpack = %d events, %d, %d", len(l), at, e)
			}
		}
	}
}
