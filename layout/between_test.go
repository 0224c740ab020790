package layout_test

import (
	"slices"
	"strconv"
	"strings"
	"testing"

	"continuo/api"
	"continuo/layout"
)

// spreads is the document's table, a line for each position: the ways, each with its weight and its positions.
const spreads = `
MONO: 65536 FC; 65536 FL FR
FL: 32768 MONO; 32768 FC
FR: 32768 MONO; 32768 FC
FC: 46341 FL FR; 65536 MONO
LFE: 32768 FC; 23170 FL FR; 32768 MONO
RL: 65536 SL; 46341 RC; 46341 FL; 32768 FC; 32768 MONO
RR: 65536 SR; 46341 RC; 46341 FR; 32768 FC; 32768 MONO
SL: 65536 RL; 46341 RC; 46341 FL; 32768 FC; 32768 MONO
SR: 65536 RR; 46341 RC; 46341 FR; 32768 FC; 32768 MONO
RC: 46341 RL RR; 46341 SL SR; 32768 FL FR; 32768 FC; 32768 MONO
`

// column returns, for each of the positions to, the weight that the document's table tells of a position.
func column(t *testing.T, p int, to []int, lfe bool) []int {
	t.Helper()
	ways := "65536 " + layout.Text([]int{p})
	if p != api.PLFE || lfe {
		_, rest, _ := strings.Cut(spreads, "\n"+layout.Text([]int{p})+": ")
		rest, _, _ = strings.Cut(rest, "\n")
		ways += "; " + rest
	}
	out := make([]int, len(to))
	for way := range strings.SplitSeq(ways, "; ") {
		var at []int
		for _, word := range words(way)[1:] {
			at = append(at, slices.Index(to, parsed(t, word)[0]))
		}
		if slices.Contains(at, -1) {
			continue
		}
		for _, row := range at {
			out[row], _ = strconv.Atoi(words(way)[0])
		}
		break
	}
	return out
}

// 3.2: each position goes to each layout as the table tells.
func TestBetweenEachPosition(t *testing.T) {
	for _, to := range subsets() {
		for p := api.PMono; p <= api.PRC; p++ {
			for _, lfe := range []bool{false, true} {
				m := between(t, []int{p}, to, lfe)
				var got []int
				for _, row := range m {
					got = append(got, row...)
				}
				if want := column(t, p, to, lfe); len(m) != len(to) || !slices.Equal(got, want) {
					t.Errorf("Between(%s, %s, %t) = %v, want %v", layout.Text([]int{p}), layout.Text(to), lfe, got, want)
				}
			}
		}
	}
}

// 3.2, Details: each position has a column of its own, in the order of the first layout; the rows are in the order of the second.
func TestBetweenColumns(t *testing.T) {
	d := draws(32)
	for range 3000 {
		from, to, lfe := d.layout(d.channels()), d.layout(d.channels()), d.below(2) == 0
		m := between(t, from, to, lfe)
		if !layout.ValidMatrix(m) || len(m) != len(to) || len(m[0]) != len(from) {
			t.Fatalf("Between(%v, %v) = %v", from, to, m)
		}
		for k, p := range from {
			for i, want := range column(t, p, to, lfe) {
				if m[i][k] != want {
					t.Errorf("Between(%v, %v, %t): %d at %d, %d; want %d", from, to, lfe, m[i][k], i, k, want)
				}
			}
		}
	}
}

// 3.2: matrices as they stand in the document, or follow from it at a glance.
func TestBetweenByHand(t *testing.T) {
	for _, c := range []struct {
		from, to string
		lfe      bool
		want     [][]int
	}{
		{"FL,FR", "MONO", false, [][]int{{32768, 32768}}},
		{"MONO", "FL,FR", false, [][]int{{65536}, {65536}}},
		{"MONO", "FL", false, [][]int{{0}}},
		{"MONO", "FL,FR,FC", false, [][]int{{0}, {0}, {65536}}},
		{"FL,FR,FC,LFE,RL,RR", "FL,FR", true, [][]int{{65536, 0, 46341, 23170, 46341, 0}, {0, 65536, 46341, 23170, 0, 46341}}},
		{"FL,FR,FC,LFE,RL,RR", "FL,FR", false, [][]int{{65536, 0, 46341, 0, 46341, 0}, {0, 65536, 46341, 0, 0, 46341}}},
		{"LFE", "FC,LFE", false, [][]int{{0}, {65536}}},
		{"LFE", "FC,LFE", true, [][]int{{0}, {65536}}},
		{"LFE", "RL,RR,SL", true, [][]int{{0}, {0}, {0}}},
		{"SL,SR", "RR,RL", false, [][]int{{0, 65536}, {65536, 0}}},
		{"RL,RR", "SL,RC", false, [][]int{{65536, 0}, {0, 46341}}},
	} {
		if m := between(t, parsed(t, c.from), parsed(t, c.to), c.lfe); !same(m, c.want) {
			t.Errorf("Between(%s, %s, %t) = %v, want %v", c.from, c.to, c.lfe, m, c.want)
		}
	}
}

// 3.2, Details: between a layout and itself, in whatever order, is Pick's matrix.
func TestBetweenItself(t *testing.T) {
	d := draws(7)
	for _, l := range subsets() {
		var order []int
		for _, i := range d.order(len(l)) {
			order = append(order, l[i])
		}
		for _, to := range [][]int{l, order} {
			p, e := layout.Pick(l, to)
			if m := between(t, l, to, d.below(2) == 0); e != api.OK || !same(m, p) {
				t.Errorf("Between(%v, %v) = %v; Pick: %v, %d", l, to, m, p, e)
			}
		}
	}
}

// 3.2: both must be layouts.
func TestBetweenInvalid(t *testing.T) {
	ok := []int{api.PFL, api.PFR}
	for _, l := range invalidLayouts() {
		for _, c := range [][2][]int{{l, ok}, {ok, l}, {l, l}} {
			if m, e := layout.Between(c[0], c[1], true); e != api.ErrInvalid || len(m) != 0 {
				t.Errorf("Between of %d and %d positions = %v, %d", len(c[0]), len(c[1]), m, e)
			}
		}
	}
}
