package format_test

import (
	"slices"
	"testing"

	"continuo/api"
	"continuo/format"
)

// Short ways to write choices and formats.

func one(n int) api.Choice {
	return api.Choice{Kind: api.COne, Default: n, List: []int{n}}
}

func enum(wished int, list ...int) api.Choice {
	return api.Choice{Kind: api.CEnum, Default: wished, List: list}
}

func span(wished, least, most int) api.Choice {
	return api.Choice{Kind: api.CRange, Default: wished, List: []int{least, most}}
}

func step(wished, least, most, by int) api.Choice {
	return api.Choice{Kind: api.CStep, Default: wished, List: []int{least, most, by}}
}

// upTo returns the numbers from 1 to n.
func upTo(n int) []int {
	var out []int
	for i := range n {
		out = append(out, i+1)
	}
	return out
}

func fields(media int, f ...api.Field) api.Format {
	return api.Format{Media: media, Fields: f}
}

func rate(c api.Choice) api.Field     { return api.Field{Key: api.KRate, Choice: c} }
func channels(c api.Choice) api.Field { return api.Field{Key: api.KChannels, Choice: c} }

// audio is a format that tells the rate alone.
func audio(c api.Choice) api.Format { return fields(api.MAudio, rate(c)) }

// parsed reads formats from their texts.
func parsed(t *testing.T, texts ...string) []api.Format {
	t.Helper()
	var out []api.Format
	for _, text := range texts {
		f, e := format.Parse(text)
		if e != api.OK {
			t.Fatalf("Parse(%q) = %d", text, e)
		}
		out = append(out, f)
	}
	return out
}

func texts(l []api.Format) []string {
	var out []string
	for _, f := range l {
		out = append(out, format.Text(f))
	}
	return out
}

func sameChoice(a, b api.Choice) bool {
	return a.Kind == b.Kind && a.Default == b.Default && slices.Equal(a.List, b.List)
}

func isZeroChoice(c api.Choice) bool { return sameChoice(c, api.Choice{}) }
func isZero(f api.Format) bool       { return format.Same(f, api.Format{}) }

// numbersOf returns a valid choice's numbers as the document tells them, apart from the program.
func numbersOf(c api.Choice) []int {
	if c.Kind == api.COne || c.Kind == api.CEnum {
		return slices.Clone(c.List)
	}
	by := 1
	if c.Kind == api.CStep {
		by = c.List[2]
	}
	var out []int
	for n := c.List[0]; n <= c.List[1]; n += by {
		out = append(out, n)
	}
	return out
}

// validChoices are of all kinds, with few numbers and many, at the ends of what is allowed too.
func validChoices() []api.Choice {
	return []api.Choice{
		one(0), one(5), one(api.MaxTime),
		enum(5, 5), enum(3, 1, 3, 2), enum(0, api.MaxTime, 0), enum(20, upTo(20)...), enum(7, 9, 7, 40),
		span(5, 5, 5), span(0, 0, api.MaxTime), span(api.MaxTime, 0, api.MaxTime), span(9, 3, 40), span(4, 4, 9),
		step(8, 8, 8, 1), step(9, 1, 10, 4), step(0, 0, api.MaxTime, 1000), step(4, 4, 7, 1), step(1, 1, 90, 1),
		step(6, 0, 100, 6), step(30, 10, 300, 20), step(5, 5, 9, 5), step(api.MaxTime, 0, api.MaxTime, 1),
	}
}

// draws are numbers that look drawn, the same ones each time.
type draws uint64

func (d *draws) below(n int) int {
	*d = *d*6364136223846793005 + 1442695040888963407
	return int(uint64(*d)>>33) % n
}

// choice draws a valid choice of numbers below most.
func (d *draws) choice(most, greatestStep int) api.Choice {
	least := d.below(most)
	above := least + d.below(most-least)
	switch d.below(4) + 1 {
	case api.COne:
		return one(least)
	case api.CEnum:
		var list []int
		for range d.below(20) + 1 {
			if n := d.below(most); !slices.Contains(list, n) {
				list = append(list, n)
			}
		}
		return enum(list[d.below(len(list))], list...)
	case api.CRange:
		return span(least+d.below(above-least+1), least, above)
	}
	return d.steps(least, above, greatestStep)
}

// steps draws a CStep of those bounds.
func (d *draws) steps(least, most, greatestStep int) api.Choice {
	by := d.below(greatestStep) + 1
	return step(least+by*d.below((most-least)/by+1), least, most, by)
}

// format draws a valid format, in which a key that is told has few numbers.
func (d *draws) format() api.Format {
	f := api.Format{Media: api.MAudio}
	if d.below(10) == 0 {
		f.Media = api.MVideo
	}
	for key := api.KEncoding; key <= api.KModifier; key++ {
		if d.below(3) == 0 {
			f.Fields = append(f.Fields, api.Field{Key: key, Choice: d.choice(60, 6)})
		}
	}
	return f
}

func (d *draws) formats(most int) []api.Format {
	var out []api.Format
	for range d.below(most + 1) {
		out = append(out, d.format())
	}
	return out
}

// invalidFormats are almost right.
func invalidFormats() []api.Format {
	ok := one(5)
	return []api.Format{
		{},
		fields(0, rate(ok)), fields(4, rate(ok)), fields(-1, rate(ok)),
		fields(api.MAudio, api.Field{Key: 0, Choice: ok}),
		fields(api.MAudio, api.Field{Key: -1, Choice: ok}),
		fields(api.MAudio, api.Field{Key: 7, Choice: ok}),
		fields(api.MAudio, rate(ok), rate(ok)),
		fields(api.MAudio, channels(ok), rate(ok)),
		fields(api.MAudio, api.Field{Key: api.KRate}),
		fields(api.MAudio, rate(ok), channels(enum(4, 5))),
		fields(api.MAudio, make([]api.Field, 7)...),
	}
}
