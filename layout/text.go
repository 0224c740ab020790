package layout

import (
	"strings"

	"continuo/api"
)

// words are the positions' words.
var words = [...]string{
	api.PMono: "MONO", api.PFL: "FL", api.PFR: "FR", api.PFC: "FC", api.PLFE: "LFE",
	api.PRL: "RL", api.PRR: "RR", api.PSL: "SL", api.PSR: "SR", api.PRC: "RC",
}

// positions returns the words with their positions.
func positions() map[string]int {
	out := map[string]int{}
	for p := api.PMono; p <= api.PRC; p++ {
		out[words[p]] = p
	}
	return out
}

// Text writes a layout; the empty text for what is none.
func Text(l []int) string {
	if !Valid(l) {
		return ""
	}
	var out []string
	for _, p := range l {
		out = append(out, words[p])
	}
	return strings.Join(out, ",")
}

// Parse reads just the texts of layouts.
func Parse(text string) ([]int, api.Errno) {
	return fitted(func() []int {
		must(len(text) <= api.MaxText, api.ErrLong)
		known := positions()
		var out []int
		for word := range strings.SplitSeq(text, ",") {
			// A word that is not known is position 0, which no layout has.
			out = append(out, known[word])
		}
		must(Valid(out), api.ErrSyntax)
		return out
	})
}
