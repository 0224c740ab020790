package format_test

import (
	"testing"

	"continuo/api"
	"continuo/format"
)

// full is a format with all fields, and choices of all kinds.
func full() api.Format {
	f := api.Format{Media: api.MVideo}
	for i, c := range []api.Choice{one(3), enum(5, 3, 5), span(7, 1, 9), step(9, 1, 10, 4), one(0), enum(6, 6)} {
		f.Fields = append(f.Fields, api.Field{Key: i + 1, Choice: c})
	}
	return f
}

// validFormats are of all media, from no field to all, with all valid choices.
func validFormats() []api.Format {
	out := []api.Format{fields(api.MAudio), fields(api.MVideo), fields(api.MNotes), full()}
	for _, c := range validChoices() {
		out = append(out, audio(c), fields(api.MNotes, api.Field{Key: api.KEncoding, Choice: one(1)}, api.Field{Key: api.KModifier, Choice: c}))
	}
	var d draws = 2
	for range 100 {
		out = append(out, d.format())
	}
	return out
}

func TestValid(t *testing.T) {
	for _, f := range validFormats() {
		if !format.Valid(f) {
			t.Errorf("%v is not valid", f)
		}
	}
	for _, f := range invalidFormats() {
		if format.Valid(f) {
			t.Errorf("%v is valid", f)
		}
	}
	for _, c := range invalidChoices() {
		if format.Valid(audio(c)) {
			t.Errorf("%v is valid", audio(c))
		}
	}
}

func TestSame(t *testing.T) {
	base := func() api.Format { return fields(api.MAudio, rate(enum(5, 5, 6)), channels(one(2))) }
	if !format.Same(base(), base()) {
		t.Error("a format is not the same as itself")
	}
	for name, f := range map[string]api.Format{
		"media":        fields(api.MVideo, base().Fields...),
		"key":          fields(api.MAudio, rate(enum(5, 5, 6)), api.Field{Key: api.KWidth, Choice: one(2)}),
		"kind":         fields(api.MAudio, rate(span(5, 5, 6)), channels(one(2))),
		"default":      fields(api.MAudio, rate(enum(6, 5, 6)), channels(one(2))),
		"list":         fields(api.MAudio, rate(enum(5, 5, 7)), channels(one(2))),
		"order":        fields(api.MAudio, rate(enum(5, 6, 5)), channels(one(2))),
		"longer list":  fields(api.MAudio, rate(enum(5, 5, 6, 7)), channels(one(2))),
		"fewer fields": fields(api.MAudio, rate(enum(5, 5, 6))),
		"no fields":    fields(api.MAudio),
	} {
		if format.Same(base(), f) || format.Same(f, base()) {
			t.Errorf("with another %s it is the same", name)
		}
	}
	empty := api.Format{Media: 9, Fields: []api.Field{}}
	if !format.Same(api.Format{Media: 9}, empty) {
		t.Error("nil and empty fields differ")
	}
	nils, empties := audio(api.Choice{Kind: 7}), audio(api.Choice{Kind: 7, List: []int{}})
	if !format.Same(nils, empties) {
		t.Error("nil and empty lists differ")
	}
}

func TestFixed(t *testing.T) {
	for _, f := range []api.Format{fields(api.MNotes), audio(one(0)), fields(api.MAudio, rate(one(5)), channels(one(2)))} {
		if !format.Fixed(f) {
			t.Errorf("%v is not fixed", f)
		}
	}
	for _, f := range append(invalidFormats(), full(), audio(enum(5, 5)), audio(span(5, 5, 5)), audio(step(5, 5, 5, 1)),
		fields(api.MAudio, rate(one(5)), channels(enum(2, 2, 1))), audio(one(-1))) {
		if format.Fixed(f) {
			t.Errorf("%v is fixed", f)
		}
	}
}

func TestFix(t *testing.T) {
	want := api.Format{Media: api.MVideo}
	for i, n := range []int{3, 5, 7, 9, 0, 6} {
		want.Fields = append(want.Fields, api.Field{Key: i + 1, Choice: one(n)})
	}
	if f, e := format.Fix(full()); !format.Same(f, want) || e != api.OK {
		t.Errorf("Fix = %v, %d", f, e)
	}
	for _, f := range validFormats() {
		fixed, e := format.Fix(f)
		if !format.Fixed(fixed) || e != api.OK || len(fixed.Fields) != len(f.Fields) || fixed.Media != f.Media {
			t.Errorf("Fix(%v) = %v, %d", f, fixed, e)
		}
		if again, _ := format.Fix(fixed); !format.Same(again, fixed) {
			t.Errorf("Fix(%v) = %v", fixed, again)
		}
	}
}

func TestField(t *testing.T) {
	for _, field := range full().Fields {
		if c, e := format.Field(full(), field.Key); !sameChoice(c, field.Choice) || e != api.OK {
			t.Errorf("Field %d = %v, %d", field.Key, c, e)
		}
	}
	for _, key := range []int{-1, 0, api.KEncoding, api.KChannels, api.KModifier, 7, 1 << 40} {
		if c, e := format.Field(audio(one(5)), key); !isZeroChoice(c) || e != api.ErrNone {
			t.Errorf("Field %d = %v, %d", key, c, e)
		}
	}
}

func TestFormatErrors(t *testing.T) {
	for _, f := range invalidFormats() {
		if x, e := format.Fix(f); !isZero(x) || e != api.ErrInvalid {
			t.Errorf("Fix(%v) = %v, %d", f, x, e)
		}
		for _, key := range []int{api.KRate, api.KWidth, -1} {
			if c, e := format.Field(f, key); !isZeroChoice(c) || e != api.ErrInvalid {
				t.Errorf("Field(%v, %d) = %v, %d", f, key, c, e)
			}
		}
		if s := format.Text(f); s != "" {
			t.Errorf("Text(%v) = %q", f, s)
		}
		if v, e := format.Value(f); v.Kind != 0 || v.N != 0 || len(v.Keys)+len(v.Kids) > 0 || e != api.ErrInvalid {
			t.Errorf("Value(%v) = %v, %d", f, v, e)
		}
		checkPairErrors(t, f, audio(one(5)))
		checkPairErrors(t, f, fields(api.MVideo))
		checkPairErrors(t, f, f)
	}
}

func checkPairErrors(t *testing.T, bad, f api.Format) {
	t.Helper()
	for _, x := range [][2]api.Format{{bad, f}, {f, bad}} {
		if j, e := format.Join(x[0], x[1]); !isZero(j) || e != api.ErrInvalid {
			t.Errorf("Join(%v, %v) = %v, %d", x[0], x[1], j, e)
		}
		if ok, e := format.Within(x[0], x[1]); ok || e != api.ErrInvalid {
			t.Errorf("Within(%v, %v) = %v, %d", x[0], x[1], ok, e)
		}
		if l, e := format.Filter([]api.Format{f, x[0]}, x[1]); len(l) > 0 || e != api.ErrInvalid {
			t.Errorf("Filter(%v, %v) = %v, %d", x[0], x[1], l, e)
		}
		g, i, j, e := format.Agree([]api.Format{f, x[0]}, []api.Format{f, x[1]})
		if !isZero(g) || i != 0 || j != 0 || e != api.ErrInvalid {
			t.Errorf("Agree(%v, %v) = %v, %d, %d, %d", x[0], x[1], g, i, j, e)
		}
	}
}
