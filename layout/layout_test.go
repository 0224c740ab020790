package layout_test

import (
	"slices"
	"testing"

	"continuo/api"
	"continuo/layout"
)

// 3.1: 1 to 8 different positions are a layout.
func TestValid(t *testing.T) {
	for _, l := range subsets() {
		if !layout.Valid(l) {
			t.Errorf("Valid(%v) is false", l)
		}
	}
	for _, l := range [][]int{{10, 1}, {3, 2}, {10, 9, 8, 7, 6, 5, 4, 3}, {5, 1, 10, 2, 9}} {
		if !layout.Valid(l) {
			t.Errorf("Valid(%v) is false", l)
		}
	}
	for _, l := range invalidLayouts() {
		if layout.Valid(l) {
			t.Errorf("Valid of %d positions is true", len(l))
		}
	}
}

// 3.1: the usual layout of so many channels.
func TestUsual(t *testing.T) {
	for i, want := range []string{
		"MONO", "FL,FR", "FL,FR,FC", "FL,FR,RL,RR", "FL,FR,FC,RL,RR", "FL,FR,FC,LFE,RL,RR",
		"FL,FR,FC,LFE,RL,RR,RC", "FL,FR,FC,LFE,RL,RR,SL,SR",
	} {
		l, e := layout.Usual(i + 1)
		if e != api.OK || !layout.Valid(l) || len(l) != i+1 || layout.Text(l) != want {
			t.Errorf("Usual(%d) = %v, %d; want %s", i+1, l, e, want)
		}
	}
	for _, n := range []int{0, -1, 9, 10, 1 << 62, -1 << 63} {
		if l, e := layout.Usual(n); e != api.ErrRange || len(l) != 0 {
			t.Errorf("Usual(%d) = %v, %d", n, l, e)
		}
	}
}

// 3.4: the words of the positions, separated by commas.
func TestText(t *testing.T) {
	for i, word := range words("MONO FL FR FC LFE RL RR SL SR RC") {
		if got := layout.Text([]int{i + 1}); got != word {
			t.Errorf("Text(%d) = %q, want %q", i+1, got, word)
		}
	}
	if got := layout.Text([]int{api.PRC, api.PMono, api.PSL}); got != "RC,MONO,SL" {
		t.Errorf("%q", got)
	}
	for _, l := range invalidLayouts() {
		if got := layout.Text(l); got != "" {
			t.Errorf("Text of %d positions is %q", len(l), got)
		}
	}
}

// P3.6, 3.4: what Text writes is read back.
func TestParseBack(t *testing.T) {
	all := subsets()
	d := draws(36)
	for range 2000 {
		all = append(all, d.layout(d.channels()))
	}
	for _, l := range all {
		if got, e := layout.Parse(layout.Text(l)); e != api.OK || !slices.Equal(got, l) {
			t.Errorf("%v: %q is read as %v, %d", l, layout.Text(l), got, e)
		}
	}
}

// 3.4: all other texts are none of a layout.
func TestParseSyntax(t *testing.T) {
	for _, text := range []string{
		"", ",", ",,", "FL,", ",FL", "FL,,FR", "FL FR", "FL, FR", " FL", "FL ", "FL;FR", "FL,FR\n", "fl", "Fl", "mono", "Mono",
		"FL,FL", "MONO,FL,MONO", "FL,XX", "F", "L", "FLFR", "LF", "LFEE", "1", "0", "2,3", "FL,2", "FL\x00", "\x00", "\xff", "FL,\xff",
		"MONO,FL,FR,FC,LFE,RL,RR,SL,SR", "MONO,FL,FR,FC,LFE,RL,RR,SL,SR,RC", "FL,FR,FL,FR,FL,FR,FL,FR,FL",
	} {
		if l, e := layout.Parse(text); e != api.ErrSyntax || len(l) != 0 {
			t.Errorf("Parse(%q) = %v, %d", text, l, e)
		}
	}
}

// 3.4, R2: a text of more than MaxText bytes is too long, whatever it says.
func TestParseLong(t *testing.T) {
	for _, c := range []struct {
		bytes int
		e     api.Errno
	}{{api.MaxText - 1, api.ErrSyntax}, {api.MaxText, api.ErrSyntax}, {api.MaxText + 1, api.ErrLong}, {3 * api.MaxText, api.ErrLong}} {
		for _, begin := range []string{"", "FL,FR,"} {
			for _, fill := range []byte{',', 'F', 0} {
				text := begin + string(slices.Repeat([]byte{fill}, c.bytes-len(begin)))
				if l, e := layout.Parse(text); e != c.e || len(l) != 0 {
					t.Errorf("%q and %d bytes %q: %v, %d", begin, len(text), fill, l, e)
				}
			}
		}
	}
}
