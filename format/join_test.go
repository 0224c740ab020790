package format_test

import (
	"slices"
	"testing"

	"continuo/api"
	"continuo/format"
)

func TestJoin(t *testing.T) {
	for _, x := range []struct{ a, b, want string }{
		{"audio", "audio", "audio"},
		{"audio rate=3", "audio", "audio rate=3"},
		{"notes", "notes rate=3 of 1..9", "notes rate=3 of 1..9"},
		{"audio rate=3", "audio channels=2 of 1,2", "audio rate=3 channels=2 of 1,2"},
		{"audio channels=2 of 1,2", "audio rate=3", "audio rate=3 channels=2 of 1,2"},
		{"video encoding=1 height=4", "video rate=5 width=6 modifier=7", "video encoding=1 rate=5 width=6 height=4 modifier=7"},
		{"audio rate=5 of 5", "audio", "audio rate=5 of 5"},
		{"audio", "audio rate=9 of 1..10/4", "audio rate=9 of 1..10/4"},
		{"audio rate=9 of 1..10/4", "audio rate=5 of 1..10/4", "audio rate=9 of 1,5,9"},
		{"audio rate=48000 of 44100,48000", "audio rate=44100 of 8000..96000", "audio rate=48000 of 44100,48000"},
		{"audio rate=44100 of 8000..96000", "audio rate=48000 of 44100,48000", "audio rate=44100 of 44100,48000"},
		{"audio encoding=3 rate=5 of 1..50 channels=2", "audio encoding=3 of 1,3 rate=9 of 1..70 channels=4 of 2,4", "audio encoding=3 rate=5 of 1..50 channels=2"},
	} {
		f := parsed(t, x.a, x.b)
		if j, e := format.Join(f[0], f[1]); format.Text(j) != x.want || e != api.OK {
			t.Errorf("%q, %q: %q, %d", x.a, x.b, format.Text(j), e)
		}
	}
}

func TestJoinErrors(t *testing.T) {
	for _, x := range []struct {
		a, b string
		e    api.Errno
	}{
		{"audio", "video", api.ErrKind},
		{"video", "notes", api.ErrKind},
		{"audio rate=3", "video rate=4", api.ErrKind},
		{"audio rate=3", "audio rate=4", api.ErrFormat},
		{"audio rate=3 of 1..9", "audio rate=10", api.ErrFormat},
		{"audio rate=3 channels=2", "audio rate=3 channels=1", api.ErrFormat},
		{"audio encoding=1 rate=3", "audio encoding=2 rate=3", api.ErrFormat},
		{"audio rate=0 of 0..90/6", "audio rate=1 of 1..90/4", api.ErrFormat},
	} {
		f := parsed(t, x.a, x.b)
		for _, p := range [][2]api.Format{{f[0], f[1]}, {f[1], f[0]}} {
			if j, e := format.Join(p[0], p[1]); !isZero(j) || e != x.e {
				t.Errorf("%q: %v, %d, not %d", texts(p[:]), j, e, x.e)
			}
		}
	}
}

func TestWithin(t *testing.T) {
	for _, x := range []struct {
		a, b string
		want bool
	}{
		{"audio", "audio", true},
		{"audio", "video", false},
		{"audio rate=1", "notes", false},
		{"audio rate=1", "audio", true},
		{"audio", "audio rate=1", false},
		{"audio channels=1", "audio rate=1", false},
		{"audio rate=1 channels=2", "audio channels=2", true},
		{"audio rate=1 channels=2", "audio rate=1 channels=1", false},
		{"audio rate=5", "audio rate=5", true},
		{"audio rate=5", "audio rate=6", false},
		{"audio rate=5 of 5", "audio rate=5", true},
		{"audio rate=5 of 2,5", "audio rate=3 of 5,3,2", true},
		{"audio rate=5 of 2,5", "audio rate=5 of 5,3", false},
		{"audio rate=5 of 2,5", "audio rate=1 of 1..5", true},
		{"audio rate=5 of 2,5", "audio rate=1 of 1..4", false},
		{"audio rate=5 of 3,5", "audio rate=1 of 1..9/2", true},
		{"audio rate=5 of 2,5", "audio rate=1 of 1..9/2", false},
		{"audio rate=5 of 1..5", "audio rate=1 of 5,4,3,2,1", true},
		{"audio rate=5 of 1..6", "audio rate=1 of 5,4,3,2,1", false},
		{"audio rate=5 of 1..5", "audio rate=1 of 5,4,3,1", false},
		{"audio rate=5 of 5..5", "audio rate=5", true},
		{"audio rate=1 of 1..21", "audio rate=1 of 1,2,3,4,5,6,7,8,9,10,11,12,13,14,15,16,17,18,19,20", false},
		{"audio rate=1 of 1..20", "audio rate=1 of 1,2,3,4,5,6,7,8,9,10,11,12,13,14,15,16,17,18,19,20", true},
		{"audio rate=1 of 1..90", "audio rate=1 of 1..90", true},
		{"audio rate=1 of 1..90", "audio rate=1 of 1..89", false},
		{"audio rate=1 of 1..90", "audio rate=2 of 2..90", false},
		{"audio rate=1 of 1..1000000000", "audio rate=1 of 0..1000000000", true},
		{"audio rate=1 of 0..1000000000", "audio rate=1 of 1..1000000000", false},
		{"audio rate=1 of 1..90", "audio rate=1 of 1..90/1", true},
		{"audio rate=1 of 1..90", "audio rate=1 of 1..90/2", false},
		{"audio rate=5 of 5..5", "audio rate=1 of 1..90/2", true},
		{"audio rate=6 of 6..6", "audio rate=1 of 1..90/2", false},
		{"audio rate=5 of 5..6", "audio rate=1 of 1..90/2", false},
		{"audio rate=0 of 0..10/4", "audio rate=0 of 0..8", true},
		{"audio rate=0 of 0..10/4", "audio rate=0 of 0..7", false},
		{"audio rate=4 of 4..20/4", "audio rate=2 of 2..30/2", true},
		{"audio rate=4 of 4..20/2", "audio rate=4 of 4..20/4", false},
		{"audio rate=4 of 4..2000/4", "audio rate=2 of 2..3000/2", true},
		{"audio rate=4 of 4..2000/4", "audio rate=3 of 3..3001/2", false},
		{"audio rate=4 of 4..2000/6", "audio rate=4 of 4..3000/4", false},
		{"audio rate=4 of 4..2000/4", "audio rate=2 of 2..1998/2", false},
		{"audio rate=4 of 4..2003/4", "audio rate=2 of 2..2001/2", true},
		{"audio rate=0 of 0..1000000000/1000", "audio rate=0 of 0..1000000000/500", true},
		{"audio rate=4 of 4..10/6", "audio rate=10 of 10,4", true},
		{"audio rate=4 of 4..11/6", "audio rate=4 of 4,11", false},
	} {
		f := parsed(t, x.a, x.b)
		if ok, e := format.Within(f[0], f[1]); ok != x.want || e != api.OK {
			t.Errorf("%q within %q: %v, %d", x.a, x.b, ok, e)
		}
	}
}

// allAmong reports what Within reports, from all numbers of all fields.
func allAmong(a, b api.Format) bool {
	for _, field := range b.Fields {
		c, e := format.Field(a, field.Key)
		if e != api.OK {
			return false
		}
		of := numbersOf(field.Choice)
		for _, n := range numbersOf(c) {
			if !slices.Contains(of, n) {
				return false
			}
		}
	}
	return a.Media == b.Media
}

func TestWithinByAllNumbers(t *testing.T) {
	var d draws = 3
	yes := 0
	for range 30000 {
		a, b := audio(d.choice(30, 4)), audio(d.choice(90, 4))
		want := allAmong(a, b)
		if ok, e := format.Within(a, b); ok != want || e != api.OK {
			t.Errorf("%q: %v, %d", texts([]api.Format{a, b}), ok, e)
		}
		if want {
			yes++
		}
	}
	if yes < 1000 {
		t.Errorf("only %d were within", yes)
	}
}

// P2.5: what two formats make is within both; within goes on from one to the next.
func TestJoinIsWithin(t *testing.T) {
	var d draws = 4
	for range 2000 {
		a, b := d.format(), d.format()
		f, e := format.Join(a, b)
		if e != api.OK {
			continue
		}
		if !format.Valid(f) || !allAmong(f, a) || !allAmong(f, b) {
			t.Errorf("%q make %q", texts([]api.Format{a, b}), format.Text(f))
		}
		for _, x := range []api.Format{a, b} {
			if ok, e := format.Within(f, x); !ok || e != api.OK {
				t.Errorf("%q is not within %q: %d", format.Text(f), format.Text(x), e)
			}
		}
	}
}

func TestWithinGoesOn(t *testing.T) {
	var d draws = 5
	var chain [][2]api.Format
	for len(chain) < 300 {
		a, b := audio(d.choice(20, 3)), audio(d.choice(60, 3))
		if ok, _ := format.Within(a, b); ok {
			chain = append(chain, [2]api.Format{a, b})
		}
	}
	steps := 0
	for _, x := range chain {
		for _, y := range chain {
			if ok, _ := format.Within(x[1], y[0]); !ok {
				continue
			}
			steps++
			if ok, _ := format.Within(x[0], y[1]); !ok {
				t.Errorf("%q is not within %q", format.Text(x[0]), format.Text(y[1]))
			}
		}
	}
	if steps < 20 {
		t.Errorf("only %d went on", steps)
	}
}
