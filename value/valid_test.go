package value_test

import (
	"strings"
	"testing"

	"continuo/api"
	"continuo/value"
)

func TestSamplesAreValid(t *testing.T) {
	for _, v := range samples() {
		if !value.Valid(v) {
			t.Errorf("%v is not valid", v)
		}
	}
	empty := api.Value{Kind: api.VNone, Keys: []int{}, Kids: []api.Value{}}
	if !value.Valid(empty) {
		t.Error("an empty list counts as a field")
	}
}

// broken are values that are not valid, each for one reason.
func broken() map[string]api.Value {
	kid, key := []api.Value{none()}, []int{1}
	return map[string]api.Value{
		"no kind":                     {},
		"kind below":                  {Kind: -1},
		"kind above":                  {Kind: 11},
		"none with N":                 {Kind: api.VNone, N: 1},
		"none with S":                 {Kind: api.VNone, S: "a"},
		"none with Keys":              {Kind: api.VNone, Keys: key},
		"none with Kids":              {Kind: api.VNone, Kids: kid},
		"bool with S":                 {Kind: api.VBool, S: "a"},
		"int with S":                  {Kind: api.VInt, S: "a"},
		"int with Kids":               {Kind: api.VInt, Kids: kid},
		"text with N":                 {Kind: api.VText, N: 1},
		"bytes with N":                {Kind: api.VBytes, N: 1},
		"bytes with Keys":             {Kind: api.VBytes, Keys: key},
		"list with N":                 {Kind: api.VList, N: 1},
		"list with S":                 {Kind: api.VList, S: "a"},
		"struct with Keys":            {Kind: api.VStruct, Keys: key, Kids: kid},
		"struct with N":               {Kind: api.VStruct, N: 1},
		"object with S":               {Kind: api.VObject, S: "a"},
		"choice with S":               {Kind: api.VChoice, N: api.COne, S: "a", Kids: integers(1)},
		"choice with Keys":            {Kind: api.VChoice, N: api.COne, Keys: key, Kids: integers(1)},
		"sequence with N":             {Kind: api.VSequence, N: 1},
		"sequence with S":             {Kind: api.VSequence, S: "a"},
		"bool 2":                      boolean(2),
		"bool -1":                     boolean(-1),
		"text with a zero byte":       text("a\x00"),
		"text that begins with one":   text("\x00a"),
		"list of two kinds":           list(integer(1), boolean(1)),
		"list of nones":               list(none()),
		"list of bytes":               list(blob("a")),
		"list of lists":               list(list()),
		"wrong kid":                   record(none(), record(boolean(2))),
		"type below":                  object(-1, nil),
		"type above":                  object(1<<31, nil),
		"key below":                   object(1, []int{-1}, none()),
		"key above":                   object(1, []int{1 << 31}, none()),
		"equal keys":                  object(1, []int{4, 4}, none(), none()),
		"descending keys":             object(1, []int{4, 3}, none(), none()),
		"more keys than kids":         object(1, []int{1, 2}, none()),
		"fewer keys than kids":        object(1, []int{1}, none(), none()),
		"time below":                  sequence([]int{-1}, none()),
		"time above":                  sequence([]int{api.MaxTime + 1}, none()),
		"descending times":            sequence([]int{4, 3}, none(), none()),
		"more times than kids":        sequence([]int{1, 2}, none()),
		"fewer times than kids":       sequence([]int{1}, none(), none()),
		"sequence in a sequence":      sequence([]int{1}, sequence(nil)),
		"choice of kind 0":            choice(0, 1),
		"choice of kind 5":            choice(5, 1),
		"choice without a default":    choice(api.COne),
		"one with more":               choice(api.COne, 1, 1),
		"enum without alternatives":   choice(api.CEnum, 1),
		"enum with equal ones":        choice(api.CEnum, 1, 1, 2, 1),
		"enum without the default":    choice(api.CEnum, 1, 2, 3),
		"range without a most":        choice(api.CRange, 1, 1),
		"range with more":             choice(api.CRange, 1, 1, 1, 1),
		"range that descends":         choice(api.CRange, 2, 3, 1),
		"range below its default":     choice(api.CRange, 5, 1, 4),
		"range above its default":     choice(api.CRange, 0, 1, 4),
		"step without a step":         choice(api.CStep, 1, 1, 4),
		"step with more":              choice(api.CStep, 1, 1, 4, 1, 1),
		"step 0":                      choice(api.CStep, 1, 1, 4, 0),
		"step below 0":                choice(api.CStep, 1, 1, 4, -1),
		"default between steps":       choice(api.CStep, 2, 1, 5, 2),
		"default below its steps":     choice(api.CStep, -1, 1, 5, 2),
		"default above its steps":     choice(api.CStep, 7, 1, 5, 2),
		"default between great steps": choice(api.CStep, 1<<63-1, -1<<63, 1<<63-1, 1<<62),
		"steps that descend":          choice(api.CStep, 5, 5, 1, 2),
		"choice of other kinds":       {Kind: api.VChoice, N: api.COne, Kids: []api.Value{boolean(1)}},
		"eleven levels":               nested(11),
		"501 values":                  record(make500(none())...),
		"too many bytes":              blob(strings.Repeat("a", api.MaxText-7)),
		"too many bytes in all":       record(blob(strings.Repeat("a", api.MaxText-16)), none()),
		"holds itself":                endless(),
	}
}

func make500(v api.Value) []api.Value {
	var out []api.Value
	for range 500 {
		out = append(out, v)
	}
	return out
}

func TestBrokenAreInvalid(t *testing.T) {
	for name, v := range broken() {
		if value.Valid(v) {
			t.Errorf("%s: valid", name)
		}
	}
}

func TestLimitsAreReached(t *testing.T) {
	for name, v := range map[string]api.Value{
		"ten levels":       nested(10),
		"500 values":       record(make500(none())[1:]...),
		"500 in two parts": record(record(make500(none())[251:]...), record(make500(none())[252:]...)),
		"MaxText bytes":    blob(strings.Repeat("a", api.MaxText-8)),
		"MaxText in all":   record(blob(strings.Repeat("a", api.MaxText-24)), none()),
	} {
		if !value.Valid(v) {
			t.Errorf("%s: not valid", name)
		}
	}
}

// Each call that takes values tells that one is not valid, ahead of everything else but a text that is too long.
func TestInvalidIsTold(t *testing.T) {
	for name, v := range broken() {
		s, e1 := value.Encode(v)
		n, e2 := value.Size(v)
		c, e3 := value.Count(v)
		g, e4 := value.Get(v, []int{77})
		d, e5 := value.Drop(v, nil)
		l, e6 := value.At(v, 0)
		q, e7 := value.Cut(v, 9, 1)
		if s != "" || n != 0 || c != 0 || len(l) > 0 || !isZero(g) || !isZero(d) || !isZero(q) {
			t.Errorf("%s: a result beside an error", name)
		}
		s1, e8 := value.Set(v, []int{77}, none())
		s2, e9 := value.Set(none(), []int{77}, v)
		m1, e10 := value.Merge(v, none())
		m2, e11 := value.Merge(none(), v)
		if !isZero(s1) || !isZero(s2) || !isZero(m1) || !isZero(m2) {
			t.Errorf("%s: a result beside an error of two arguments", name)
		}
		for i, e := range []api.Errno{e1, e2, e3, e4, e5, e6, e7, e8, e9, e10, e11} {
			if e != api.ErrInvalid {
				t.Errorf("%s: call %d told %d", name, i+1, e)
			}
		}
	}
}

func TestSame(t *testing.T) {
	all := samples()
	for i, a := range all {
		for j, b := range samples() {
			if value.Same(a, b) != (i == j) {
				t.Errorf("Same(%v, %v) = %v", a, b, i != j)
			}
		}
	}
	if !value.Same(api.Value{Kind: 6, Keys: []int{}, Kids: []api.Value{}}, api.Value{Kind: 6}) {
		t.Error("nil and empty lists are not alike")
	}
}

func TestSameOfInvalid(t *testing.T) {
	odd := func() api.Value {
		return api.Value{Kind: 99, N: -7, S: "\x00", Keys: []int{5, 1}, Kids: []api.Value{{Kind: -3}}}
	}
	if !value.Same(odd(), odd()) || !value.Same(api.Value{}, api.Value{}) {
		t.Error("equal values are not the same")
	}
	for i, change := range []func(v *api.Value){
		func(v *api.Value) { v.Kind = 98 },
		func(v *api.Value) { v.N = 7 },
		func(v *api.Value) { v.S = "" },
		func(v *api.Value) { v.Keys[1] = 2 },
		func(v *api.Value) { v.Keys = v.Keys[:1] },
		func(v *api.Value) { v.Kids[0].N = 1 },
		func(v *api.Value) { v.Kids = nil },
	} {
		v := odd()
		change(&v)
		if value.Same(v, odd()) || value.Same(odd(), v) {
			t.Errorf("change %d: still the same", i)
		}
	}
}

func TestSameEnds(t *testing.T) {
	deep := func() api.Value { return nested(1 << 16) }
	if !value.Same(deep(), deep()) || value.Same(deep(), nested(1<<16-1)) {
		t.Error("deep values")
	}
	value.Same(endless(), endless())
}
