package adapt_test

import (
	"testing"

	"continuo/adapt"
	"continuo/api"
	"continuo/layout"
	"continuo/sample"
)

// 9.1: encodings, rates from 1 to MaxRate and layouts, each way of laying samples.
func TestValid(t *testing.T) {
	for encoding := 1; encoding <= 8; encoding++ {
		for _, rate := range []int{1, 2, 8000, 44100, 48000, api.MaxRate} {
			for channels := 1; channels <= api.MaxChannels; channels++ {
				f := fixed(encoding, rate, must(layout.Usual(channels)))
				for _, f.Planar = range []bool{false, true} {
					if !adapt.Valid(f) {
						t.Errorf("Valid(%v) is false", f)
					}
				}
			}
		}
	}
	if !adapt.Valid(fixed(api.E8, 1, []int{10, 1, 5})) {
		t.Errorf("a layout that is not usual is not valid")
	}
}

// 9.1: what is not valid.
func TestNotValid(t *testing.T) {
	for i, f := range invalidFixed() {
		if adapt.Valid(f) {
			t.Errorf("Valid of the invalid format %d is true", i)
		}
	}
}

// 9.1: qualities, gains and seeds at their bounds.
func TestValidTurn(t *testing.T) {
	f := fixed(api.E16L, 48000, stereo)
	for _, turn := range []api.Turn{
		{Quality: 1}, {Quality: 2}, {Quality: 1, Gains: []int{}}, {Quality: 1, Gains: []int{0, top}}, {Quality: 2, Gains: []int{one, one}},
		{Quality: 1, Seed: 1}, {Quality: 2, Seed: 1<<31 - 1}, {Quality: 2, Gains: []int{top, 1}, Seed: 77},
	} {
		if !adapt.ValidTurn(f, turn) {
			t.Errorf("ValidTurn(%v) is false", turn)
		}
	}
	for i, turn := range invalidTurns() {
		if adapt.ValidTurn(f, turn) {
			t.Errorf("ValidTurn of the invalid turn %d, %v, is true", i, turn.Quality)
		}
	}
}

// 9.1: gains are as many as the format has channels; the format's encoding does not matter, not even for a seed.
func TestValidTurnGains(t *testing.T) {
	for channels := 1; channels <= api.MaxChannels; channels++ {
		for encoding := 1; encoding <= 8; encoding++ {
			f := planar(encoding, 5, must(layout.Usual(channels)))
			for gains := range 20 {
				turn := api.Turn{Quality: 1, Gains: make([]int, gains), Seed: 9}
				if got, want := adapt.ValidTurn(f, turn), gains == 0 || gains == channels; got != want {
					t.Errorf("ValidTurn of %d channels, %d gains is %t", channels, gains, got)
				}
			}
		}
	}
}

// R5: no turn is valid for a format that is not.
func TestValidTurnOfNone(t *testing.T) {
	for i, f := range invalidFixed() {
		for _, turn := range append(invalidTurns(), linear, api.Turn{Quality: 1, Gains: make([]int, len(f.Layout))}) {
			if adapt.ValidTurn(f, turn) {
				t.Errorf("ValidTurn for the invalid format %d is true", i)
			}
		}
	}
}

// 9.2: a frame has the bytes of a sample of each channel.
func TestFrame(t *testing.T) {
	width := []int{api.E8: 1, api.EU8: 1, api.E16L: 2, api.E16B: 2, api.E24L: 3, api.E24B: 3, api.E32L: 4, api.E32B: 4}
	for encoding := 1; encoding <= 8; encoding++ {
		for channels := 1; channels <= api.MaxChannels; channels++ {
			f := fixed(encoding, 1, must(layout.Usual(channels)))
			for _, f.Planar = range []bool{false, true} {
				if n, e := adapt.Frame(f); n != width[encoding]*channels || e != api.OK {
					t.Errorf("Frame(%v) = %d, %d", f, n, e)
				}
			}
			s := must(sample.Encode(encoding, false, filled(channels, 1, 0)))
			if n, _ := adapt.Frame(f); n != len(s) {
				t.Errorf("Frame(%v) = %d, not %d", f, n, len(s))
			}
		}
	}
	for i, f := range invalidFixed() {
		if n, e := adapt.Frame(f); n != 0 || e != api.ErrInvalid {
			t.Errorf("Frame of the invalid format %d = %d, %d", i, n, e)
		}
	}
}
