package resample

import (
	"testing"

	"continuo/api"
)

// These tests stand within the package, for they begin where so much has come that to push it would take minutes.

// later is a State to which so many frames have come, and of which so many were made.
func later(t *testing.T, in, out, came, made int) *State {
	t.Helper()
	s, e := New(in, out, 1, 1)
	if e != api.OK {
		t.Fatalf("New = %d", e)
	}
	s.came, s.made, s.whole = came, made, max(came-1, 0)
	return s
}

// takes asks for what Push says of so many frames, and for what is counted behind it.
func takes(t *testing.T, s *State, frames int, want api.Errno, came, made int) {
	t.Helper()
	if _, e := s.Push(api.Block{make([]int, frames)}); e != want || s.Came() != came || s.Made() != made {
		t.Errorf("Push(%d frames) = %d, came %d, made %d, not %d, %d, %d", frames, e, s.Came(), s.Made(), want, came, made)
	}
}

// 5.1: no more than MaxTime frames come in all; with more nothing is taken.
func TestMostCome(t *testing.T) {
	const most = api.MaxTime
	s := later(t, 2, 1, most-10, most/2-5)
	takes(t, s, 11, api.ErrLimit, most-10, most/2-5)
	takes(t, s, api.MaxFrames, api.ErrLimit, most-10, most/2-5)
	takes(t, s, 8, api.OK, most-2, most/2-1)
	takes(t, s, 3, api.ErrLimit, most-2, most/2-1)
	takes(t, s, 2, api.OK, most, most/2)
	takes(t, s, 0, api.OK, most, most/2)
	takes(t, s, 1, api.ErrLimit, most, most/2)
	if whole, num, den := s.Place(); whole != most-1 || num != 0 || den != 1 {
		t.Errorf("Place = %d, %d / %d", whole, num, den)
	}
	if _, e := s.Drain(); e != api.OK {
		t.Errorf("Drain = %d", e)
	}
	takes(t, s, 11, api.OK, 11, 5)
}

// 5.1: no more than MaxTime frames are made in all; Drain still gives those that wait.
func TestMostMade(t *testing.T) {
	const most = api.MaxTime
	s := later(t, 1, 2, 1000, most-5)
	takes(t, s, 3, api.ErrLimit, 1000, most-5)
	takes(t, s, 2, api.OK, 1002, most-1)
	takes(t, s, 1, api.ErrLimit, 1002, most-1)
	takes(t, s, 0, api.OK, 1002, most-1)
	if out, e := s.Drain(); e != api.OK || len(out[0]) != 2 {
		t.Errorf("Drain = %d frames, %d", len(out[0]), e)
	}
	s = later(t, 1, 2, 1000, most-4)
	takes(t, s, 2, api.OK, 1002, most)
	takes(t, s, 0, api.OK, 1002, most)
	takes(t, s, 1, api.ErrLimit, 1002, most)
}
