package format_test

import (
	"slices"
	"testing"

	"continuo/api"
	"continuo/format"
)

var none = api.Choice{}

func TestMeetOfEachTwoKinds(t *testing.T) {
	for _, x := range []struct {
		name       string
		a, b, want api.Choice
	}{
		{"one, one", one(5), one(5), one(5)},
		{"one, another", one(5), one(6), none},
		{"one, list", one(5), enum(3, 3, 5), one(5)},
		{"one, list without it", one(5), enum(3, 3, 6), none},
		{"one, range", one(5), span(3, 1, 9), one(5)},
		{"one, range's end", one(9), span(3, 1, 9), one(9)},
		{"one, behind a range", one(10), span(3, 1, 9), none},
		{"one, steps", one(5), step(1, 1, 9, 2), one(5)},
		{"one, between steps", one(6), step(1, 1, 9, 2), none},
		{"list, one", enum(3, 3, 5), one(5), one(5)},
		{"list, list: the first one's order", enum(9, 9, 3, 5), enum(3, 5, 3, 9), enum(9, 9, 3, 5)},
		{"list, list: those of both", enum(9, 9, 3, 5), enum(5, 5, 9), enum(9, 9, 5)},
		{"list, list: the second one's wish", enum(3, 9, 3, 5), enum(5, 5, 9), enum(5, 9, 5)},
		{"list, list: nobody's wish", enum(3, 9, 3, 5), enum(4, 5, 9, 4), enum(9, 9, 5)},
		{"list, list: one in common", enum(9, 9, 3, 5), enum(3, 2, 3, 4), one(3)},
		{"list, list: none", enum(9, 9, 3, 5), enum(2, 2, 4), none},
		{"list of one, list", enum(9, 9), enum(2, 2, 9), one(9)},
		{"list, range", enum(9, 9, 3, 5), span(4, 1, 5), enum(3, 3, 5)},
		{"list, steps", enum(9, 9, 3, 6, 12), step(12, 0, 12, 6), enum(12, 6, 12)},
		{"range, one", span(3, 1, 9), one(5), one(5)},
		{"range, list: the list's order", span(3, 1, 9), enum(10, 10, 7, 3, 5), enum(3, 7, 3, 5)},
		{"range, list: the second one's wish", span(1, 1, 9), enum(3, 7, 3, 5), enum(3, 7, 3, 5)},
		{"range, list: nobody's wish", span(1, 1, 9), enum(10, 10, 7, 3), enum(7, 7, 3)},
		{"range, range: many", span(50, 1, 99), span(30, 4, 90), span(50, 4, 90)},
		{"range, range: 21", span(1, 1, 21), span(50, 0, 90), span(1, 1, 21)},
		{"range, range: 20", span(1, 1, 20), span(50, 0, 90), enum(1, upTo(20)...)},
		{"range, range: two", span(1, 1, 5), span(9, 4, 90), enum(4, 4, 5)},
		{"range, range: one", span(1, 1, 5), span(9, 5, 90), one(5)},
		{"range, range: none", span(1, 1, 4), span(9, 5, 90), none},
		{"range, range: none, the other way", span(9, 5, 90), span(1, 1, 4), none},
		{"range, range: the second one's wish", span(1, 1, 99), span(30, 4, 90), span(30, 4, 90)},
		{"range, range: nobody's wish", span(1, 1, 80), span(90, 4, 90), span(4, 4, 80)},
		{"range, steps of one", span(50, 1, 99), step(30, 4, 90, 1), step(50, 4, 90, 1)},
		{"range, steps", span(8, 3, 200), step(4, 1, 300, 3), step(4, 4, 199, 3)},
		{"steps, range", step(4, 1, 300, 3), span(8, 3, 200), step(4, 4, 199, 3)},
		{"steps, range: few", step(4, 1, 300, 3), span(8, 3, 9), enum(4, 4, 7)},
		{"steps, range: one", step(4, 1, 300, 3), span(8, 5, 9), one(7)},
		{"steps, range between", step(4, 1, 300, 3), span(8, 8, 9), none},
		{"steps, one", step(4, 1, 300, 3), one(7), one(7)},
		{"steps, list", step(4, 1, 300, 3), enum(8, 8, 7, 4), enum(4, 7, 4)},
		{"steps, steps: many", step(6, 0, 1000, 6), step(8, 4, 999, 4), step(12, 12, 996, 12)},
		{"steps, steps of one", step(6, 0, 100, 1), step(8, 4, 200, 1), step(6, 4, 100, 1)},
		{"steps, steps: few", step(0, 0, 100, 6), step(4, 4, 100, 4), enum(12, 12, 24, 36, 48, 60, 72, 84, 96)},
		{"steps, steps: one", step(0, 0, 23, 6), step(4, 4, 100, 4), one(12)},
		{"steps, steps: rests that never meet", step(0, 0, 1000, 6), step(1, 1, 1000, 4), none},
		{"steps, steps: none within", step(0, 0, 11, 6), step(4, 4, 100, 4), none},
		{"steps, steps: the greatest is one of both", step(5, 5, 400, 10), step(5, 5, 399, 2), step(5, 5, 395, 10)},
	} {
		checkMeet(t, x.name, x.a, x.b, x.want)
	}
}

func checkMeet(t *testing.T, name string, a, b, want api.Choice) {
	t.Helper()
	c, ok, e := format.Meet(a, b)
	if !sameChoice(c, want) || ok != !isZeroChoice(want) || e != api.OK {
		t.Errorf("%s: %v, %v, %d, not %v", name, c, ok, e, want)
	}
}

// byStep returns count numbers from least on.
func byStep(least, by, count int) []int {
	var out []int
	for i := range count {
		out = append(out, least+by*i)
	}
	return out
}

func TestMeetOfGreatSteps(t *testing.T) {
	const most = api.MaxTime
	for _, x := range []struct {
		name       string
		a, b, want api.Choice
	}{
		{"step of 1,000", step(0, 0, 90000, 8), step(0, 0, 90000, 125), step(0, 0, 90000, 1000)},
		{"step of 1,001, cut", step(0, 0, 90000, 77), step(0, 0, 90000, 13), enum(0, byStep(0, 1001, 20)...)},
		{"21 numbers, cut", step(0, 0, 20020, 77), step(0, 0, 90000, 13), enum(0, byStep(0, 1001, 20)...)},
		{"20 numbers, not cut", step(0, 0, 20019, 77), step(0, 0, 90000, 13), enum(0, byStep(0, 1001, 20)...)},
		{"one number", step(0, 0, 1000, 77), step(0, 0, 90000, 13), one(0)},
		{"the first one's wish ahead of the cut", step(19019, 0, 90000, 77), step(0, 0, 90000, 13), enum(19019, byStep(0, 1001, 20)...)},
		{"the first one's wish behind the cut", step(20020, 0, 90000, 77), step(1001, 0, 90000, 13), enum(1001, byStep(0, 1001, 20)...)},
		{"both wishes behind the cut", step(20020, 0, 90000, 77), step(21021, 0, 90000, 13), enum(0, byStep(0, 1001, 20)...)},
		{"the greatest steps", step(3, 3, most, 999), step(5, 5, most, 1000), enum(997005, byStep(997005, 999000, 20)...)},
		{"far up", step(most-1000, most-1000, most, 1000), step(most, 0, most, 8), enum(most-1000, most-1000, most)},
		{"the greatest range", span(5, 0, most), span(7, 0, most), span(5, 0, most)},
		{"the greatest range by steps", span(5, 0, most), step(7, 7, most, 1000), step(7, 7, most-1000+7, 1000)},
	} {
		checkMeet(t, x.name, x.a, x.b, x.want)
	}
}

// expected is the outcome of two choices from all their numbers, and whether it was cut.
func expected(a, b api.Choice) (want api.Choice, cut bool) {
	x, y := numbersOf(a), numbersOf(b)
	if a.Kind > api.CEnum && b.Kind <= api.CEnum {
		x, y = y, x
	}
	other := map[int]bool{}
	for _, n := range y {
		other[n] = true
	}
	both := slices.DeleteFunc(x, func(n int) bool { return !other[n] })
	lists := a.Kind <= api.CEnum || b.Kind <= api.CEnum
	if len(both) == 0 {
		return none, false
	}
	by := 0
	if len(both) > 1 {
		by = both[1] - both[0]
	}
	switch {
	case len(both) == 1:
		want = one(both[0])
	case lists || len(both) <= 20 || by > 1000:
		cut = len(both) > 20
		both = both[:min(20, len(both))]
		want = enum(both[0], both...)
	case a.Kind == api.CRange && b.Kind == api.CRange:
		want = span(both[0], both[0], both[len(both)-1])
	default:
		want = step(both[0], both[0], both[len(both)-1], by)
	}
	for _, wished := range []int{b.Default, a.Default} {
		if slices.Contains(both, wished) {
			want.Default = wished
		}
	}
	return want, cut
}

// P2.2: what Meet gives is what both have, in whichever order they are asked.
func TestMeetIsWhatBothHave(t *testing.T) {
	var d draws = 1
	met, wasCut := 0, 0
	for i := range 4000 {
		a, b := d.choice(90, 9), d.choice(90, 9)
		if i%4 == 0 {
			a, b = d.steps(0, 30000+d.below(30000), 60), d.steps(d.below(60), 60000, 60)
		}
		want, cut := expected(a, b)
		checkMeet(t, "drawn", a, b, want)
		c, ok, _ := format.Meet(a, b)
		if _, back, _ := format.Meet(b, a); back != ok {
			t.Errorf("%v and %v meet in one order alone", a, b)
		}
		if cut {
			wasCut++
		}
		if ok {
			met++
			if !format.ValidChoice(c) {
				t.Errorf("%v and %v make %v, which is not valid", a, b, c)
			}
		}
	}
	if met < 1000 || wasCut < 20 {
		t.Errorf("only %d met, %d were cut", met, wasCut)
	}
}

func TestMeetWithItself(t *testing.T) {
	for _, c := range validChoices() {
		m, ok, e := format.Meet(c, c)
		if !ok || e != api.OK || m.Default != c.Default {
			t.Errorf("%v with itself: %v, %v, %d", c, m, ok, e)
		}
	}
}
