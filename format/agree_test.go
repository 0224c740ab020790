package format_test

import (
	"slices"
	"testing"

	"continuo/api"
	"continuo/format"
)

func TestFilter(t *testing.T) {
	l := parsed(t, "audio rate=1", "audio rate=48000 of 44100,48000", "video rate=44100", "audio", "audio rate=44100 channels=2", "audio rate=1")
	for _, x := range []struct {
		f    string
		want []string
	}{
		{"audio rate=44100 of 8000..96000", []string{"audio rate=48000 of 44100,48000", "audio rate=44100 of 8000..96000", "audio rate=44100 channels=2"}},
		{"audio rate=44100 of 44100,48000", []string{"audio rate=48000 of 44100,48000", "audio rate=44100 of 44100,48000", "audio rate=44100 channels=2"}},
		{"audio rate=1", []string{"audio rate=1", "audio rate=1", "audio rate=1"}},
		{"video", []string{"video rate=44100"}},
		{"notes", nil},
		{"audio rate=2 channels=1", []string{"audio rate=2 channels=1"}},
	} {
		out, e := format.Filter(l, parsed(t, x.f)[0])
		if !slices.Equal(texts(out), x.want) || e != api.OK {
			t.Errorf("%q: %q, %d", x.f, texts(out), e)
		}
	}
	if out, e := format.Filter(nil, audio(one(5))); len(out) != 0 || e != api.OK {
		t.Errorf("nothing filtered is %v, %d", out, e)
	}
}

// The first one's order counts: a list's format is asked ahead of the one with which it is filtered.
func TestFilterPrefersTheList(t *testing.T) {
	l := parsed(t, "audio rate=3 of 3,5,9")
	out, _ := format.Filter(l, parsed(t, "audio rate=5 of 9,5,3")[0])
	if want := "audio rate=3 of 3,5,9"; len(out) != 1 || format.Text(out[0]) != want {
		t.Errorf("%q, not %q", texts(out), want)
	}
}

func TestAgree(t *testing.T) {
	for _, x := range []struct {
		name string
		a, b []string
		want string
		i, j int
	}{
		{"example", []string{"audio rate=48000 of 44100,48000"}, []string{"audio rate=44100 of 8000..96000"}, "audio rate=48000", 0, 0},
		{"second pair", []string{"audio rate=1", "audio rate=48000 of 44100,48000 channels=2"}, []string{"audio rate=2", "audio rate=44100 of 8000..96000"}, "audio rate=48000 channels=2", 1, 1},
		{"first of a", []string{"audio rate=1", "audio rate=2"}, []string{"audio rate=2", "audio rate=1"}, "audio rate=1", 0, 1},
		{"first of b", []string{"audio rate=1", "audio rate=2"}, []string{"video", "audio rate=1 channels=2", "audio rate=1"}, "audio rate=1 channels=2", 0, 1},
		{"last of both", []string{"audio", "video", "notes rate=5"}, []string{"notes rate=4", "notes rate=6", "notes rate=5 of 1..9"}, "notes rate=5", 2, 2},
		{"no fields", []string{"notes"}, []string{"notes"}, "notes", 0, 0},
		{"left open by one", []string{"audio rate=7 of 1..90"}, []string{"audio channels=4 of 2,4"}, "audio rate=7 channels=4", 0, 0},
		{"the second one's wish", []string{"audio rate=1 of 1..90"}, []string{"audio rate=50 of 40..99"}, "audio rate=50", 0, 0},
		{"nobody's wish", []string{"audio rate=1 of 1..90"}, []string{"audio rate=99 of 40..99"}, "audio rate=40", 0, 0},
	} {
		f, i, j, e := format.Agree(parsed(t, x.a...), parsed(t, x.b...))
		if format.Text(f) != x.want || i != x.i || j != x.j || e != api.OK {
			t.Errorf("%s: %q, %d, %d, %d", x.name, format.Text(f), i, j, e)
		}
	}
}

func TestAgreeErrors(t *testing.T) {
	some := parsed(t, "audio rate=1", "audio rate=2")
	for name, x := range map[string][2][]api.Format{
		"none meets":   {some, parsed(t, "audio rate=3", "video rate=1", "notes")},
		"first empty":  {nil, some},
		"second empty": {some, []api.Format{}},
		"both empty":   {nil, nil},
	} {
		f, i, j, e := format.Agree(x[0], x[1])
		if !isZero(f) || i != 0 || j != 0 || e != api.ErrFormat {
			t.Errorf("%s: %v, %d, %d, %d", name, f, i, j, e)
		}
	}
	for _, bad := range append(invalidFormats(), audio(span(5, 9, 1))) {
		l := []api.Format{bad}
		if _, _, _, e := format.Agree(nil, l); e != api.ErrInvalid {
			t.Errorf("nothing with %v: %d", bad, e)
		}
		if _, _, _, e := format.Agree(append(some, bad), some); e != api.ErrInvalid {
			t.Errorf("%v behind a pair that meets: %d", bad, e)
		}
		if _, e := format.Filter(nil, bad); e != api.ErrInvalid {
			t.Errorf("nothing filtered by %v: %d", bad, e)
		}
	}
}

func TestMostFormats(t *testing.T) {
	l := make([]api.Format, 41)
	for i := range l {
		l[i] = audio(one(i))
	}
	last := l[39:40]
	if f, i, j, e := format.Agree(l[:40], last); !format.Same(f, l[39]) || i != 39 || j != 0 || e != api.OK {
		t.Errorf("40 formats and one: %v, %d, %d, %d", f, i, j, e)
	}
	if f, i, j, e := format.Agree(last, l[:40]); !format.Same(f, l[39]) || i != 0 || j != 39 || e != api.OK {
		t.Errorf("one and 40 formats: %v, %d, %d, %d", f, i, j, e)
	}
	if out, e := format.Filter(l[:40], last[0]); len(out) != 1 || e != api.OK {
		t.Errorf("40 formats filtered: %v, %d", out, e)
	}
	for _, x := range [][2][]api.Format{{l, last}, {last, l}, {l, nil}, {nil, l}} {
		if f, i, j, e := format.Agree(x[0], x[1]); !isZero(f) || i != 0 || j != 0 || e != api.ErrInvalid {
			t.Errorf("%d formats and %d: %v, %d, %d, %d", len(x[0]), len(x[1]), f, i, j, e)
		}
	}
	if out, e := format.Filter(l, last[0]); len(out) != 0 || e != api.ErrInvalid {
		t.Errorf("41 formats filtered: %v, %d", out, e)
	}
}

func TestAgreeWithItself(t *testing.T) {
	for _, f := range validFormats() {
		want, _ := format.Fix(f)
		l := []api.Format{f}
		if g, i, j, e := format.Agree(l, l); !format.Same(g, want) || i != 0 || j != 0 || e != api.OK {
			t.Errorf("%q with itself: %q, %d, %d, %d", format.Text(f), format.Text(g), i, j, e)
		}
	}
}

// P2.3, P2.4 and P3, of drawn lists.
func TestAgreed(t *testing.T) {
	var d draws = 6
	agreed, behind := 0, 0
	for range 3000 {
		a, b := d.formats(4), d.formats(4)
		f, i, j, e := format.Agree(a, b)
		x, y, met := firstPair(a, b)
		if !met {
			if e != api.ErrFormat {
				t.Errorf("%q and %q: %d", texts(a), texts(b), e)
			}
			continue
		}
		if i != x || j != y || e != api.OK || !format.Fixed(f) || f.Media != a[i].Media {
			t.Fatalf("%q and %q: %q, %d, %d, %d", texts(a), texts(b), format.Text(f), i, j, e)
		}
		checkFields(t, f, a[i], b[j])
		agreed++
		behind += i + j
	}
	if agreed < 500 || behind < 200 {
		t.Errorf("only %d agreed, %d behind the first pair", agreed, behind)
	}
}

// firstPair returns the first pair of formats whose fields all have a number in common.
func firstPair(a, b []api.Format) (int, int, bool) {
	for i := range a {
		for j := range b {
			if a[i].Media == b[j].Media && allMeet(a[i], b[j]) {
				return i, j, true
			}
		}
	}
	return 0, 0, false
}

func allMeet(a, b api.Format) bool {
	for _, x := range a.Fields {
		for _, y := range b.Fields {
			other := numbersOf(y.Choice)
			if x.Key == y.Key && !slices.ContainsFunc(numbersOf(x.Choice), func(n int) bool { return slices.Contains(other, n) }) {
				return false
			}
		}
	}
	return true
}

// checkFields asks each field of an agreed format: it is among both sides' numbers, and the first side's wish if the other one takes it.
func checkFields(t *testing.T, f, a, b api.Format) {
	t.Helper()
	told := 0
	for key := api.KEncoding; key <= api.KModifier; key++ {
		x, inA := format.Field(a, key)
		y, inB := format.Field(b, key)
		c, in := format.Field(f, key)
		if inA != api.OK && inB != api.OK {
			continue
		}
		told++
		n := c.Default
		if in != api.OK || inA == api.OK && !slices.Contains(numbersOf(x), n) || inB == api.OK && !slices.Contains(numbersOf(y), n) {
			t.Errorf("field %d of %q is %v", key, texts([]api.Format{a, b}), c)
		}
		if inA == api.OK && n != x.Default && (inB != api.OK || slices.Contains(numbersOf(y), x.Default)) {
			t.Errorf("field %d of %q is not the first one's wish: %d", key, texts([]api.Format{a, b}), n)
		}
	}
	if told != len(f.Fields) {
		t.Errorf("%q make %q", texts([]api.Format{a, b}), format.Text(f))
	}
}
