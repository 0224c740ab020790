package note_test

import (
	"math"
	"slices"
	"testing"

	"continuo/api"
	"continuo/note"
)

// 10.3: Sort orders by frame alone; equal ones stay as they stand.
func TestSort(t *testing.T) {
	a, b, c, d := on(5, 3, 9, 9), on(5, 0, 1, 1), off(0, 0, 0, 0), clock(5, 0)
	gives(t, "Sort", c, a, b, d)(note.Sort([]api.Note{a, b, c, d}))
	gives(t, "Sort", c, d, b, a)(note.Sort([]api.Note{d, b, a, c}))
	gives(t, "Sort")(note.Sort(nil))
	for seed := range 1000 {
		d := draws(seed)
		l := d.notes(d.below(60))
		gives(t, "Sort", sorted(l)...)(note.Sort(l))
	}
}

// 10.3: Merge goes by frame, of equal frames by the order of the lists.
func TestMerge(t *testing.T) {
	a := []api.Note{on(1, 0, 1, 1), on(3, 0, 2, 1), on(3, 0, 3, 1)}
	b := []api.Note{on(0, 0, 4, 1), on(3, 0, 5, 1), on(9, 0, 6, 1)}
	gives(t, "Merge", b[0], a[0], a[1], a[2], b[1], b[2])(note.Merge([][]api.Note{a, b}))
	gives(t, "Merge", b[0], a[0], b[1], a[1], a[2], b[2])(note.Merge([][]api.Note{b, a}))
	gives(t, "Merge", b[0], b[0], a[0], b[1], a[1], a[2], b[1], b[2], b[2])(note.Merge([][]api.Note{nil, b, {}, a, b, nil}))
	gives(t, "Merge", a...)(note.Merge([][]api.Note{a}))
	gives(t, "Merge")(note.Merge(nil))
	gives(t, "Merge")(note.Merge([][]api.Note{nil, {}}))
}

// 10.3, Details: Merge's errors: each list is asked for what is not valid, then each for its order, then all for their number.
func TestMergeErrors(t *testing.T) {
	half := slices.Repeat([]api.Note{clock(9, 0)}, noteMost/2)
	refuses(t, "Merge", api.ErrState)(note.Merge([][]api.Note{backwards()}))
	refuses(t, "Merge", api.ErrState)(note.Merge([][]api.Note{half, half, half, backwards()}))
	refuses(t, "Merge", api.ErrState)(note.Merge([][]api.Note{backwards(), half, half, half}))
	refuses(t, "Merge", api.ErrLimit)(note.Merge([][]api.Note{half, half, {clock(0, 0)}}))
	refuses(t, "Merge", api.ErrLimit)(note.Merge([][]api.Note{half, half, half}))
	refuses(t, "Merge", api.ErrInvalid)(note.Merge([][]api.Note{half, half, half, backwards(), {{}}}))
	refuses(t, "Merge", api.ErrInvalid)(note.Merge([][]api.Note{backwards(), slices.Repeat(half, 3)}))
	gives(t, "Merge", slices.Repeat(half, 2)...)(note.Merge([][]api.Note{half, half, {}}))
}

// 10.3: very many lists, most of them empty, are joined all the same.
func TestMergeMany(t *testing.T) {
	lists := make([][]api.Note, 300000)
	var want []api.Note
	for i := range noteMost {
		lists[i*149] = []api.Note{clock(noteMost-i, i%8)}
		want = append(want, clock(noteMost-i, i%8))
	}
	slices.Reverse(want)
	gives(t, "Merge", want...)(note.Merge(lists))
}

// 10.3: Split cuts at from + length; what is late has the frame 0 in the part, the rest keeps its frames.
func TestSplit(t *testing.T) {
	l := []api.Note{on(2, 0, 1, 1), on(5, 0, 2, 1), on(6, 0, 3, 1), on(9, 0, 4, 1), on(10, 0, 5, 1)}
	for _, c := range []struct {
		from, length int
		frames       []int // of the part
	}{
		{0, 0, nil}, {0, 2, nil}, {0, 3, []int{2}}, {0, 10, []int{2, 5, 6, 9}}, {0, 11, []int{2, 5, 6, 9, 10}},
		{5, 0, []int{0}}, {5, 1, []int{0, 0}}, {5, 4, []int{0, 0, 1}}, {5, 5, []int{0, 0, 1, 4}}, {5, 6, []int{0, 0, 1, 4, 5}},
		{2, 4, []int{0, 3}}, {11, 0, []int{0, 0, 0, 0, 0}}, {10, 0, []int{0, 0, 0, 0}}, {10, 1, []int{0, 0, 0, 0, 0}},
		{0, math.MaxInt, []int{2, 5, 6, 9, 10}}, {9, math.MaxInt, []int{0, 0, 0, 0, 1}}, {api.MaxTime, api.MaxTime, []int{0, 0, 0, 0, 0}},
		{math.MaxInt, math.MaxInt, []int{0, 0, 0, 0, 0}}, {math.MaxInt, 0, []int{0, 0, 0, 0, 0}},
	} {
		var want []api.Note
		for i, frame := range c.frames {
			n := l[i]
			n.Frame = frame
			want = append(want, n)
		}
		part, rest, e := note.Split(l, c.from, c.length)
		if !slices.Equal(part, want) || !slices.Equal(rest, l[len(want):]) || e != api.OK {
			t.Errorf("Split(%d, %d) = %v, %v, %d", c.from, c.length, part, rest, e)
		}
	}
	last := []api.Note{on(api.MaxTime, 0, 1, 1)}
	if part, rest, e := note.Split(last, 1, api.MaxTime-1); len(part) != 0 || !slices.Equal(rest, last) || e != api.OK {
		t.Errorf("Split = %v, %v, %d", part, rest, e)
	}
	if part, rest, e := note.Split(last, 1, api.MaxTime); len(rest) != 0 || part[0].Frame != api.MaxTime-1 || e != api.OK {
		t.Errorf("Split = %v, %v, %d", part, rest, e)
	}
}

// 10.3, Details: Split's ErrRange is ahead of its ErrState.
func TestSplitErrors(t *testing.T) {
	refuse := func(want api.Errno, l []api.Note, from, length int) {
		t.Helper()
		part, rest, e := note.Split(l, from, length)
		refuses(t, "Split", want)(append(part, rest...), e)
	}
	for _, l := range [][]api.Note{nil, {on(1, 0, 1, 1)}, backwards()} {
		for _, n := range []int{-1, -api.MaxTime, math.MinInt} {
			refuse(api.ErrRange, l, n, 0)
			refuse(api.ErrRange, l, 0, n)
			refuse(api.ErrRange, l, n, n)
			refuse(api.ErrRange, l, n, math.MaxInt)
		}
	}
	refuse(api.ErrState, backwards(), 0, 0)
	refuse(api.ErrState, backwards(), api.MaxTime, math.MaxInt)
}

// 10.3: Shift moves each event, within the bounds of frames.
func TestShift(t *testing.T) {
	l := []api.Note{on(4, 1, 2, 3), clock(4, 2), system(9, "a")}
	for _, by := range []int{-4, -1, 0, 1, 1000, api.MaxTime - 9} {
		var want []api.Note
		for _, n := range l {
			n.Frame += by
			want = append(want, n)
		}
		gives(t, "Shift", want...)(note.Shift(l, by))
	}
	for _, by := range []int{-5, -9, api.MaxTime - 8, api.MaxTime, math.MaxInt, math.MaxInt - 4, math.MinInt, math.MinInt + 9, -api.MaxTime} {
		refuses(t, "Shift", api.ErrRange)(note.Shift(l, by))
		refuses(t, "Shift", api.ErrRange)(note.Shift(append(l, on(3, 0, 0, 1)), by))
	}
	for _, by := range []int{math.MinInt, -1, 0, math.MaxInt} {
		gives(t, "Shift")(note.Shift(nil, by))
	}
	refuses(t, "Shift", api.ErrState)(note.Shift(backwards(), 1))
	refuses(t, "Shift", api.ErrState)(note.Shift(backwards(), -5))
	refuses(t, "Shift", api.ErrRange)(note.Shift(backwards(), -6))
	refuses(t, "Shift", api.ErrRange)(note.Shift(backwards(), api.MaxTime-8))
}

// mixed are events of all kinds, on the channels 0 and 3; their frames go back.
func mixed() []api.Note {
	out := []api.Note{clock(9, 1), system(8, "a")}
	for kind := api.NOff; kind <= api.NBend; kind++ {
		for _, channel := range []int{0, 3} {
			n := api.Note{Frame: 20 - kind, Kind: kind, Channel: channel, A: 60, B: 1}
			if kind == api.NProgram || kind == api.NTouch {
				n.B = 0
			}
			out = append(out, n)
		}
	}
	return append(out, clock(0, 0))
}

// 10.3: Channel are the events of a channel, also of a list that is not sorted.
func TestChannel(t *testing.T) {
	for channel := range 16 {
		var want []api.Note
		for _, n := range mixed() {
			if n.Kind < api.NSystem && n.Channel == channel {
				want = append(want, n)
			}
		}
		if len(want) > 0 != (channel == 0 || channel == 3) {
			t.Fatal(want)
		}
		gives(t, "Channel", want...)(note.Channel(mixed(), channel))
		gives(t, "Channel")(note.Channel(nil, channel))
	}
	for _, channel := range append(extremes(), 16) {
		refuses(t, "Channel", api.ErrRange)(note.Channel(mixed(), channel))
		refuses(t, "Channel", api.ErrRange)(note.Channel(nil, channel))
	}
}

// 10.3: Map gives the events of a channel another one and moves keys only; others stay as they are.
func TestMap(t *testing.T) {
	for _, from := range []int{0, 3, 15} {
		for _, to := range []int{0, 3, 7, 15} {
			for _, by := range []int{-60, -1, 0, 12, 67} {
				var want []api.Note
				for _, n := range mixed() {
					if n.Kind < api.NSystem && n.Channel == from {
						n.Channel = to
						if n.Kind <= api.NPress {
							n.A += by
						}
					}
					want = append(want, n)
				}
				gives(t, "Map", want...)(note.Map(mixed(), from, to, by))
			}
		}
	}
}

// 10.3: keys beyond 0 to 127 are left out by Map, however far beyond; what has no key is not.
func TestMapBeyond(t *testing.T) {
	var l []api.Note
	for key := range 128 {
		for kind := api.NOff; kind <= api.NControl; kind++ {
			l = append(l, api.Note{Kind: kind, Channel: 2, A: key, B: 1})
		}
	}
	l = append(l, on(0, 1, 0, 1), on(0, 1, 127, 1))
	for _, by := range append(extremes(), -128, -127, -1, 0, 1, 64, 126, 127, 128) {
		var want []api.Note
		for _, n := range l {
			if n.Channel == 2 {
				n.Channel = 9
				if n.Kind != api.NControl {
					if by < -127 || by > 127 || n.A+by < 0 || n.A+by > 127 {
						continue
					}
					n.A += by
				}
			}
			want = append(want, n)
		}
		gives(t, "Map", want...)(note.Map(l, 2, 9, by))
	}
}

// Errors: Map asks for both channels.
func TestMapErrors(t *testing.T) {
	for _, channel := range append(extremes(), 16) {
		for _, l := range [][]api.Note{nil, mixed()} {
			refuses(t, "Map", api.ErrRange)(note.Map(l, channel, 0, 0))
			refuses(t, "Map", api.ErrRange)(note.Map(l, 0, channel, 0))
			refuses(t, "Map", api.ErrRange)(note.Map(l, channel, channel, channel))
		}
	}
}
