package pool

import (
	"maps"
	"slices"
	"strconv"
	"strings"
)

// Text returns all that the pool has: two of them go on alike if they have the same text.
func (p *Pool) Text() string {
	if p == nil {
		return ""
	}
	lines := []string{
		line("deal", p.Count, p.Blocks, p.Size, p.Stride, p.Align, p.Kind),
		line("copies", p.copies),
		line("free", p.free...),
	}
	for buffer := range p.blocks {
		if holders := p.holders[buffer]; len(holders) > 0 {
			lines = append(lines, line("held "+strconv.Itoa(buffer)+" by", slices.Sorted(maps.Keys(holders))...))
		}
	}
	lines = append(lines, "memory "+strconv.Quote(string(p.memory)))
	return strings.Join(lines, "\n") + "\n"
}

// line is a line without its end: a word, and numbers.
func line(word string, numbers ...int) string {
	for _, n := range numbers {
		word += " " + strconv.Itoa(n)
	}
	return word
}
