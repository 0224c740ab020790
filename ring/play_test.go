package ring_test

import (
	"slices"
	"testing"

	"continuo/api"
	"continuo/ring"
)

// The turns: of the writer and of the reader.
func see() api.Pass                   { return api.Pass{} }
func claim(n int) api.Pass            { return api.Pass{Kind: 1, N: n} }
func put() api.Pass                   { return api.Pass{Kind: 2} }
func commit() api.Pass                { return api.Pass{Kind: 3} }
func look() api.Pass                  { return api.Pass{Who: 1} }
func take(n int) api.Pass             { return api.Pass{Who: 1, Kind: 1, N: n} }
func get() api.Pass                   { return api.Pass{Who: 1, Kind: 2} }
func done() api.Pass                  { return api.Pass{Who: 1, Kind: 3} }
func join(l ...[]api.Pass) []api.Pass { return slices.Concat(l...) }

// sends are turns that write n frames, hears such that read them.
func sends(n int) []api.Pass {
	return join([]api.Pass{see(), claim(n)}, slices.Repeat([]api.Pass{put()}, n), []api.Pass{commit()})
}

func hears(n int) []api.Pass {
	return join([]api.Pass{look(), take(n)}, slices.Repeat([]api.Pass{get()}, n), []api.Pass{done()})
}

// toldPlay is Play as the chapter tells it: since all is written in order, it needs only count. It returns how many frames were read, and how many are left.
func toldPlay(size, frames int, steps []api.Pass) (read, left int) {
	var written, seen, looked, puts, gets int
	claimed, taken := -1, -1
	for _, s := range steps {
		switch [2]int{s.Who, s.Kind} {
		case [2]int{0, 0}:
			seen = read
		case [2]int{0, 1}:
			if claimed < 0 {
				claimed = min(s.N, size-(written-seen), frames-written)
			}
		case [2]int{0, 2}:
			puts = min(puts+1, max(claimed, 0))
		case [2]int{0, 3}:
			written, puts, claimed = written+puts, 0, -1
		case [2]int{1, 0}:
			looked = written
		case [2]int{1, 1}:
			if taken < 0 {
				taken = min(s.N, looked-read)
			}
		case [2]int{1, 2}:
			gets = min(gets+1, max(taken, 0))
		case [2]int{1, 3}:
			read, gets, taken = read+gets, 0, -1
		}
	}
	return read, written - read
}

// plays is Play of what is right, on rings with several first counters.
func plays(t *testing.T, size int, frames [][]int, steps []api.Pass, left int, want [][]int) {
	t.Helper()
	for _, first := range []int{0, 1, 40000, 65533, 65535} {
		got, n, e := ring.Play(size, 1, first, frames, steps)
		if !same(got, want) || n != left || e != api.OK {
			t.Fatalf("Play(%d, 1, %d, .., %v) = %v, %d, %d, not %v, %d", size, first, steps, got, n, e, want, left)
		}
	}
}

// 7.4: Play by hand, turn by turn.
func TestPlayByHand(t *testing.T) {
	four := rising(1, 4)
	plays(t, 4, nil, nil, 0, nil)
	plays(t, 4, four, nil, 0, nil)
	plays(t, 4, four, []api.Pass{claim(2), put(), put()}, 0, nil) // not committed
	steps := []api.Pass{claim(2), put(), put(), commit()}
	plays(t, 4, four, steps, 2, nil)
	plays(t, 4, four, append(slices.Clip(steps), take(2), get(), done()), 2, nil) // not looked
	steps = append(steps, look(), take(2), get())
	plays(t, 4, four, steps, 2, nil) // not done with
	plays(t, 4, four, append(slices.Clip(steps), done()), 1, four[:1])
	plays(t, 4, four, append(slices.Clip(steps), get(), done()), 0, four[:2])
	steps = append(steps, done(), take(1), get(), done()) // what was taken and not got comes again
	plays(t, 4, four, steps, 0, four[:2])
}

// 7.4: all that was put since counts, and no more than was claimed is put.
func TestPlayPutsPart(t *testing.T) {
	four := rising(1, 4)
	steps := []api.Pass{claim(3), put(), commit()}
	plays(t, 4, four, steps, 1, nil)
	plays(t, 4, four, join(steps, hears(4)), 0, four[:1])
	steps = append(steps, claim(2), put(), put(), put(), put(), commit())
	plays(t, 4, four, join(steps, hears(4)), 0, four[:3])
	steps = append(steps, see(), claim(9), put(), put(), commit())
	plays(t, 4, four, steps, 4, nil)
	plays(t, 4, four, join(steps, hears(9)), 0, four)
}

// 7.4: a writer claims at most as many frames as are left.
func TestPlayAtTheEnd(t *testing.T) {
	two := rising(7, 2)
	plays(t, 4, two, join(sends(9), hears(9)), 0, two)
	plays(t, 4, two, join(sends(1), sends(9), sends(9), hears(9)), 0, two)
	plays(t, 4, two, join(sends(2), sends(2), hears(1)), 1, two[:1])
	plays(t, 1, two, join(sends(2), sends(2), hears(1), sends(2), hears(1)), 0, two)
}

// 7.4, Details: a turn that is not possible does nothing.
func TestPlayNotPossible(t *testing.T) {
	four := rising(1, 4)
	none := []api.Pass{put(), commit(), get(), done(), put(), get()} // nothing is claimed, nothing taken
	plays(t, 4, four, join(none, sends(2), none, hears(2), none), 0, four[:2])
	again := []api.Pass{claim(1), claim(4), put(), put(), claim(4), put(), commit(), commit()}
	plays(t, 4, four, again, 1, nil)
	again = join(again, sends(2), []api.Pass{look(), take(1), take(4), get(), get(), take(3), get(), done(), done()})
	plays(t, 4, four, again, 2, four[:1])
	empty := []api.Pass{claim(0), claim(4), put(), commit(), look(), take(0), take(4), get(), done()}
	plays(t, 4, four, empty, 0, nil)
	plays(t, 4, four, join(empty, sends(3), empty, hears(2), empty), 1, four[:2])
}

// Details: Kind 3 ends a claim, and a taking, also if nothing was put or got.
func TestPlayEndsWithNothing(t *testing.T) {
	four := rising(1, 4)
	steps := []api.Pass{claim(4), commit(), claim(2), put(), put(), commit()}
	plays(t, 4, four, steps, 2, nil)
	steps = append(steps, look(), take(2), done(), take(1), get(), done())
	plays(t, 4, four, steps, 1, four[:1])
}

// The ring: with old views Play stops where they end.
func TestPlayOldViews(t *testing.T) {
	four := rising(1, 4)
	steps := join(sends(2), hears(2), []api.Pass{claim(2), put(), put(), commit()})
	plays(t, 2, four, steps, 0, four[:2]) // the writer has not seen that there is room
	plays(t, 2, four, join(steps, sends(2)), 2, four[:2])
	plays(t, 2, four, join(steps, sends(2), []api.Pass{take(2), get(), get(), done()}), 2, four[:2])
	plays(t, 2, four, join(steps, sends(2), hears(2)), 0, four)
}

// 7.4, P7.2, P7.5: whatever turns, Play gives what counting gives.
func TestPlayDrawn(t *testing.T) {
	all := 0
	for seed := range 2000 {
		d := draws(seed)
		size, channels := d.size(), d.channels()
		frames, steps := d.frames(d.below(100), channels), d.turns(d.below(800))
		read, left := toldPlay(size, len(frames), steps)
		for range 2 {
			first := d.first()
			got, n, e := ring.Play(size, channels, first, frames, steps)
			if e != api.OK || !same(got, frames[:read]) || n != left {
				t.Fatalf("Play(%d, %d, %d, %v, %v) = %v, %d, %d, not %d frames, %d", size, channels, first, frames, steps, got, n, e, read, left)
			}
		}
		all += read
	}
	if all < 10000 {
		t.Errorf("only %d frames were read", all)
	}
}

// 7.4: N counts for Kind 1 alone.
func TestPlayOtherNumbers(t *testing.T) {
	steps := join(sends(3), hears(2))
	for i := range steps {
		if steps[i].Kind != 1 {
			steps[i].N = []int{-1, -1 << 63, 1<<63 - 1}[i%3]
		}
	}
	plays(t, 4, rising(1, 4), steps, 1, rising(1, 2))
	steps[1].N, steps[7].N = 1<<63-1, 1<<63-1
	plays(t, 4, rising(1, 4), steps, 1, rising(1, 2))
}

// Details: 2,000 frames and 5,000 turns are not too many.
func TestPlayLimits(t *testing.T) {
	frames, steps := rising(1, 2000), []api.Pass{}
	for range 40 {
		steps = append(steps, join(sends(50), hears(50))...)
	}
	steps = append(steps, slices.Repeat([]api.Pass{see()}, 5000-len(steps))...)
	plays(t, 64, frames, steps, 0, frames)
	refuse := func(want api.Errno, frames [][]int, steps []api.Pass) {
		t.Helper()
		if got, left, e := ring.Play(64, 1, 0, frames, steps); len(got) != 0 || left != 0 || e != want {
			t.Errorf("Play of %d frames, %d turns = %v, %d, %d, not %d", len(frames), len(steps), got, left, e, want)
		}
	}
	refuse(api.ErrLimit, rising(1, 2001), nil)
	refuse(api.ErrLimit, rising(1, 2001), steps)
	refuse(api.ErrLimit, nil, append(steps, done()))
	refuse(api.ErrLimit, frames, append(steps, done()))
	refuse(api.ErrRange, frames, append(steps, take(-1))) // ahead of ErrLimit
	refuse(api.ErrRange, rising(1, 2001), []api.Pass{claim(-1)})
	refuse(api.ErrInvalid, append(rising(1, 2001), nil), steps)
	refuse(api.ErrInvalid, append(frames, []int{most + 1}), []api.Pass{take(-1)}) // ahead of both
}

// Errors, Details: Play's errors, wherever the wrong frame or turn is, and their order.
func TestPlayErrors(t *testing.T) {
	good, steps := [][]int{{1, 2}, {3, 4}, {5, 6}}, join(sends(2), hears(2))
	refuse := func(want api.Errno, size, channels, first int, frames [][]int, steps []api.Pass) {
		t.Helper()
		if got, left, e := ring.Play(size, channels, first, frames, steps); len(got) != 0 || left != 0 || e != want {
			t.Errorf("Play(%d, %d, %d, %v, %v) = %v, %d, %d, not %d", size, channels, first, frames, steps, got, left, e, want)
		}
	}
	for _, n := range noSizes() {
		refuse(api.ErrRange, n, 2, 0, good, steps)
	}
	for _, n := range noCounters() {
		refuse(api.ErrRange, 4, 2, n, good, steps)
	}
	for _, n := range noChannels() {
		refuse(api.ErrRange, 4, n, 0, nil, nil)
		refuse(api.ErrInvalid, 4, n, 0, good, steps)
	}
	refuse(api.ErrRange, 4, 9, 0, [][]int{make([]int, 9)}, nil)
	refuse(api.ErrRange, 4, 0, 0, [][]int{{}}, nil)
	for i := range good {
		for _, frame := range noFrames() {
			frames := slices.Clone(good)
			frames[i] = frame
			refuse(api.ErrInvalid, 4, 2, 0, frames, nil)
			refuse(api.ErrInvalid, 3, 2, -1, frames, []api.Pass{{Who: 2}})
		}
	}
	for i := range steps {
		for _, bad := range noTurns() {
			with := slices.Clone(steps)
			with[i] = bad
			refuse(api.ErrRange, 4, 2, 0, good, with)
		}
	}
}

// noTurns are turns beyond their bounds.
func noTurns() []api.Pass {
	var out []api.Pass
	for who := range 2 {
		for _, n := range []int{-1 << 63, -1, 4, 5, 1<<63 - 1} {
			out = append(out, api.Pass{Who: who, Kind: n})
		}
		for _, n := range []int{-1 << 63, -1} {
			out = append(out, api.Pass{Who: who, Kind: 1, N: n})
		}
	}
	for kind := range 4 {
		for _, n := range []int{-1 << 63, -1, 2, 3, 1<<63 - 1} {
			out = append(out, api.Pass{Who: n, Kind: kind})
		}
	}
	return out
}
