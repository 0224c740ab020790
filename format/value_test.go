package format_test

import (
	"math"
	"slices"
	"testing"

	"continuo/api"
	"continuo/format"
	"continuo/value"
)

func integers(numbers ...int) []api.Value {
	var out []api.Value
	for _, n := range numbers {
		out = append(out, api.Value{Kind: api.VInt, N: n})
	}
	return out
}

func choiceOf(kind int, numbers ...int) api.Value {
	return api.Value{Kind: api.VChoice, N: kind, Kids: integers(numbers...)}
}

func object(media int, keys []int, kids ...api.Value) api.Value {
	return api.Value{Kind: api.VObject, N: media, Keys: keys, Kids: kids}
}

func TestValue(t *testing.T) {
	want := object(api.MVideo, []int{1, 2, 3, 4, 5, 6},
		choiceOf(api.COne, 3), choiceOf(api.CEnum, 5, 3, 5), choiceOf(api.CRange, 7, 1, 9),
		choiceOf(api.CStep, 9, 1, 10, 4), choiceOf(api.COne, 0), choiceOf(api.CEnum, 6, 6))
	if v, e := format.Value(full()); !value.Same(v, want) || e != api.OK {
		t.Errorf("Value = %v, %d", v, e)
	}
	if v, e := format.Value(fields(api.MNotes)); !value.Same(v, object(api.MNotes, nil)) || e != api.OK {
		t.Errorf("Value of no fields = %v, %d", v, e)
	}
}

// P2.6: what is written as a value is read back, also from its bytes.
func TestValueAndBack(t *testing.T) {
	for _, f := range validFormats() {
		v, e := format.Value(f)
		if e != api.OK || !value.Valid(v) {
			t.Errorf("Value(%v) = %v, %d", f, v, e)
		}
		s, _ := value.Encode(v)
		read, _ := value.Decode(s)
		for _, x := range []api.Value{v, read} {
			if back, e := format.FromValue(x); !format.Same(back, f) || e != api.OK {
				t.Errorf("%v is read back as %v, %d", f, back, e)
			}
		}
	}
}

func TestFromValueKind(t *testing.T) {
	five := choiceOf(api.COne, 5)
	for name, v := range map[string]api.Value{
		"nothing":              {},
		"none":                 {Kind: api.VNone},
		"number":               {Kind: api.VInt, N: 1},
		"text":                 {Kind: api.VText, S: "audio"},
		"choice":               five,
		"struct":               {Kind: api.VStruct, Kids: []api.Value{five}},
		"sequence":             {Kind: api.VSequence, Keys: []int{2}, Kids: []api.Value{five}},
		"media 0":              object(0, []int{2}, five),
		"media 4":              object(4, []int{2}, five),
		"media below":          object(-1, nil),
		"media 4, no fields":   object(4, nil),
		"media 4, bad number":  object(4, []int{2}, choiceOf(api.COne, -1)),
		"key 0":                object(1, []int{0}, five),
		"key 7":                object(1, []int{7}, five),
		"key below":            object(1, []int{-2}, five),
		"key 7 behind":         object(1, []int{2, 7}, five, five),
		"key twice":            object(1, []int{2, 2}, five, five),
		"keys that descend":    object(1, []int{3, 2}, five, five),
		"more keys":            object(1, []int{2, 3}, five),
		"more kids":            object(1, []int{2}, five, five),
		"text of an object":    {Kind: api.VObject, N: 1, S: "a"},
		"number as a field":    object(1, []int{2}, integers(5)...),
		"none as a field":      object(1, []int{2}, api.Value{Kind: api.VNone}),
		"list as a field":      object(1, []int{2}, api.Value{Kind: api.VList, Kids: integers(5)}),
		"object as a field":    object(1, []int{2}, object(1, nil)),
		"number behind":        object(1, []int{2, 3}, five, integers(5)[0]),
		"number behind a bad":  object(1, []int{2, 3}, choiceOf(api.COne, -1), integers(5)[0]),
		"kind of choice 0":     object(1, []int{2}, choiceOf(0, 5)),
		"kind of choice 5":     object(1, []int{2}, choiceOf(5, 5)),
		"kind of choice below": object(1, []int{2}, choiceOf(-1, 5)),
		"no numbers":           object(1, []int{2}, choiceOf(api.COne)),
		"one with a list":      object(1, []int{2}, choiceOf(api.COne, 5, 5)),
		"list of nothing":      object(1, []int{2}, choiceOf(api.CEnum, 5)),
		"range without most":   object(1, []int{2}, choiceOf(api.CRange, 5, 1)),
		"range with a step":    object(1, []int{2}, choiceOf(api.CRange, 5, 1, 9, 1)),
		"steps without step":   object(1, []int{2}, choiceOf(api.CStep, 5, 1, 9)),
		"steps with more":      object(1, []int{2}, choiceOf(api.CStep, 5, 1, 9, 1, 1)),
		"text as a number":     object(1, []int{2}, api.Value{Kind: api.VChoice, N: api.COne, Kids: []api.Value{{Kind: api.VText, S: "5"}}}),
		"text in the list":     object(1, []int{2}, api.Value{Kind: api.VChoice, N: api.CEnum, Kids: append(integers(5, 5), api.Value{Kind: api.VText})}),
		"number with a text":   object(1, []int{2}, api.Value{Kind: api.VChoice, N: api.COne, Kids: []api.Value{{Kind: api.VInt, N: 5, S: "a"}}}),
		"choice with a text":   object(1, []int{2}, api.Value{Kind: api.VChoice, N: api.COne, S: "a", Kids: integers(5)}),
		"choice with a key":    object(1, []int{2}, api.Value{Kind: api.VChoice, N: api.COne, Keys: []int{1}, Kids: integers(5)}),
	} {
		if f, e := format.FromValue(v); !isZero(f) || e != api.ErrKind {
			t.Errorf("%s: %v, %d", name, f, e)
		}
	}
}

// What layer 1 does not have as a value is something else, whatever numbers it holds.
func TestFromValueNoValue(t *testing.T) {
	five, below := choiceOf(api.COne, 5), choiceOf(api.COne, -1)
	for name, v := range map[string]api.Value{
		"list without its default":  choiceOf(api.CEnum, 0, 1),
		"list of others":            choiceOf(api.CEnum, 5, 4, 6),
		"list twice":                choiceOf(api.CEnum, 5, 5, 5),
		"list twice behind":         choiceOf(api.CEnum, 5, 5, 4, 6, 4),
		"list of others, below 0":   choiceOf(api.CEnum, 5, -1),
		"list of 21 twice":          choiceOf(api.CEnum, append([]int{1, 1}, upTo(20)...)...),
		"list of 21 others":         choiceOf(api.CEnum, append([]int{0}, upTo(21)...)...),
		"range upside down":         choiceOf(api.CRange, 5, 9, 1),
		"range with default above":  choiceOf(api.CRange, 10, 1, 9),
		"range with default below":  choiceOf(api.CRange, 0, 1, 9),
		"range upside down, beyond": choiceOf(api.CRange, 5, api.MaxTime+1, -1),
		"step 0":                    choiceOf(api.CStep, 5, 1, 9, 0),
		"step below 0":              choiceOf(api.CStep, 5, 5, 9, -4),
		"default between steps":     choiceOf(api.CStep, 6, 1, 9, 4),
		"default above the steps":   choiceOf(api.CStep, 13, 1, 9, 4),
		"default below the steps":   choiceOf(api.CStep, 1, 5, 9, 4),
		"steps upside down":         choiceOf(api.CStep, 5, 9, 1, 2),
		"between steps of 1,001":    choiceOf(api.CStep, 2, 1, 9000, 1001),
		"all bounds":                choiceOf(api.CStep, math.MaxInt, math.MinInt, math.MaxInt, math.MinInt),
	} {
		for _, x := range []api.Value{
			object(1, []int{2}, v), object(3, []int{1, 6}, five, v), object(2, []int{1, 6}, v, five),
			object(1, []int{1, 2}, below, v), object(1, []int{1, 2}, v, below),
		} {
			if f, e := format.FromValue(x); !isZero(f) || e != api.ErrKind {
				t.Errorf("%s: %v, %d", name, f, e)
			}
		}
	}
}

// Layer 1 has these values, but their numbers make no valid format.
func TestFromValueInvalid(t *testing.T) {
	for name, v := range map[string]api.Value{
		"one below 0":             choiceOf(api.COne, -1),
		"one above MaxTime":       choiceOf(api.COne, api.MaxTime+1),
		"list with a number less": choiceOf(api.CEnum, 5, 5, -1),
		"list with a greater one": choiceOf(api.CEnum, 5, 5, api.MaxTime+1),
		"list of 21":              choiceOf(api.CEnum, append([]int{1}, upTo(21)...)...),
		"range below 0":           choiceOf(api.CRange, 5, -1, 9),
		"range above MaxTime":     choiceOf(api.CRange, 5, 1, api.MaxTime+1),
		"range of all":            choiceOf(api.CRange, 5, math.MinInt, math.MaxInt),
		"steps below 0":           choiceOf(api.CStep, 5, -1, 9, 2),
		"steps above MaxTime":     choiceOf(api.CStep, 5, 1, api.MaxTime+1, 2),
		"step 1,001":              choiceOf(api.CStep, 1, 1, 9000, 1001),
		"step 1,001, one number":  choiceOf(api.CStep, 1, 1, 1, 1001),
		"steps of all":            choiceOf(api.CStep, math.MaxInt, math.MinInt, math.MaxInt, 1),
	} {
		for _, x := range []api.Value{object(1, []int{2}, v), object(3, []int{1, 6}, choiceOf(api.COne, 5), v)} {
			if f, e := format.FromValue(x); !isZero(f) || e != api.ErrInvalid {
				t.Errorf("%s: %v, %d", name, f, e)
			}
		}
	}
}

// The object, its choice, the default and 497 alternatives are just MaxValues values.
func TestFromValueMostValues(t *testing.T) {
	for _, x := range []struct {
		alternatives int
		e            api.Errno
	}{{20, api.OK}, {21, api.ErrInvalid}, {api.MaxValues - 3, api.ErrInvalid}, {api.MaxValues - 2, api.ErrKind}, {600, api.ErrKind}} {
		v := object(1, []int{2}, choiceOf(api.CEnum, append([]int{1}, upTo(x.alternatives)...)...))
		if _, e := format.FromValue(v); e != x.e {
			t.Errorf("%d alternatives: %d, not %d", x.alternatives, e, x.e)
		}
	}
}

// All choices of up to four numbers out of a few: ErrKind goes by layer 1, ErrInvalid by the choices of layer 2.
func TestFromValueByBothLayers(t *testing.T) {
	few := []int{-1, 0, 1, 2, 1000, 1001, api.MaxTime, api.MaxTime + 1}
	lists := [][]int{nil}
	for i := 0; len(lists[i]) < 4; i++ {
		for _, n := range few {
			lists = append(lists, append(slices.Clone(lists[i]), n))
		}
	}
	told := map[api.Errno]int{}
	for kind := 0; kind <= api.CStep+1; kind++ {
		for _, list := range lists {
			v := object(api.MAudio, []int{api.KRate}, choiceOf(kind, list...))
			f, want := api.Format{}, api.ErrKind
			if value.Valid(v) {
				f, want = meantBy(kind, list)
			}
			if g, e := format.FromValue(v); !format.Same(f, g) || e != want {
				t.Errorf("kind %d, %v: %v, %d, not %d", kind, list, g, e, want)
			}
			told[want]++
		}
	}
	if told[api.OK] < 100 || told[api.ErrInvalid] < 100 || told[api.ErrKind] < 100 {
		t.Errorf("too few of some: %v", told)
	}
}

// meantBy returns the format with the choice of a list of numbers, the default first, that layer 1 has.
func meantBy(kind int, numbers []int) (api.Format, api.Errno) {
	c := api.Choice{Kind: kind, Default: numbers[0], List: numbers[1:]}
	if kind == api.COne {
		c.List = numbers
	}
	if !format.ValidChoice(c) {
		return api.Format{}, api.ErrInvalid
	}
	return audio(c), api.OK
}

// A value that holds itself is something else, too.
func TestFromValueEndless(t *testing.T) {
	kids := make([]api.Value, 1)
	kids[0] = api.Value{Kind: api.VChoice, N: api.COne, Kids: kids}
	if f, e := format.FromValue(object(1, []int{2}, kids...)); !isZero(f) || e != api.ErrKind {
		t.Errorf("%v, %d", f, e)
	}
}
