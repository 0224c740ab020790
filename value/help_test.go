package value_test

import (
	"strings"
	"testing"

	"continuo/api"
	"continuo/value"
)

// Short ways to write values.

func none() api.Value                 { return api.Value{Kind: api.VNone} }
func boolean(n int) api.Value         { return api.Value{Kind: api.VBool, N: n} }
func integer(n int) api.Value         { return api.Value{Kind: api.VInt, N: n} }
func text(s string) api.Value         { return api.Value{Kind: api.VText, S: s} }
func blob(s string) api.Value         { return api.Value{Kind: api.VBytes, S: s} }
func list(k ...api.Value) api.Value   { return api.Value{Kind: api.VList, Kids: k} }
func record(k ...api.Value) api.Value { return api.Value{Kind: api.VStruct, Kids: k} }

func object(n int, keys []int, kids ...api.Value) api.Value {
	return api.Value{Kind: api.VObject, N: n, Keys: keys, Kids: kids}
}

func sequence(times []int, kids ...api.Value) api.Value {
	return api.Value{Kind: api.VSequence, Keys: times, Kids: kids}
}

func choice(kind int, numbers ...int) api.Value {
	return api.Value{Kind: api.VChoice, N: kind, Kids: integers(numbers...)}
}

func integers(numbers ...int) []api.Value {
	var out []api.Value
	for _, n := range numbers {
		out = append(out, integer(n))
	}
	return out
}

// nested returns a value of that many levels.
func nested(levels int) api.Value {
	v := record()
	for range levels - 1 {
		v = record(v)
	}
	return v
}

// endless returns a value that holds itself twice.
func endless() api.Value {
	kids := make([]api.Value, 2)
	kids[0] = record(kids...)
	kids[0].Kids = kids
	kids[1] = kids[0]
	return kids[0]
}

// Short ways to write bytes, apart from the program's own writer.

func four(n uint32) string {
	return string([]byte{byte(n), byte(n >> 8), byte(n >> 16), byte(n >> 24)})
}

func wide(n uint32) string { return four(n) + "\x00\x00\x00\x00" }

func head(length, kind uint32) string { return four(length) + four(kind) }

// raw is a value as written, from its body.
func raw(kind uint32, body ...string) string {
	s := strings.Join(body, "")
	return head(uint32(len(s)), kind) + s + strings.Repeat("\x00", (8-len(s)%8)%8)
}

func rawInt(n byte) string { return raw(api.VInt, wide(uint32(n))) }

const (
	rawNone = "\x00\x00\x00\x00\x01\x00\x00\x00"
	rawTrue = "\x04\x00\x00\x00\x02\x00\x00\x00\x01\x00\x00\x00\x00\x00\x00\x00"
)

// samples are valid values of all kinds, at ends of ranges too.
func samples() []api.Value {
	const least, most = -1 << 63, 1<<63 - 1
	return []api.Value{
		none(), boolean(0), boolean(1),
		integer(0), integer(5), integer(-1), integer(least), integer(most), integer(1 << 40),
		text(""), text("a"), text("ab"), text("12345678"), text("123456789"), text("\xff\xfe"),
		blob(""), blob("\x00"), blob("ab"), blob("\x00\x00\x00\x00\x00\x00\x00\x00"),
		list(), list(boolean(0), boolean(1)), list(integer(1), integer(1)), list(text("x"), text("")),
		record(), record(none()), record(integer(1), text("a"), list(boolean(1)), record(record())),
		object(0, nil), object(7, []int{0}, none()), object(1<<31-1, []int{1<<31 - 1}, blob("z")),
		object(3, []int{2, 5, 9}, integer(20), list(integer(1), integer(2)), object(3, []int{1}, text("in"))),
		choice(api.COne, -4), choice(api.CEnum, 2, 1, 2, 3), choice(api.CEnum, 9, 9),
		choice(api.CRange, 5, 5, 5), choice(api.CRange, 0, least, most), choice(api.CStep, 8, -4, 10, 6),
		choice(api.CStep, most-1, least, most, most), choice(api.CStep, -4, -4, -4, 1),
		sequence(nil), sequence([]int{0, api.MaxTime}, integer(1), text("end")),
		sequence([]int{3, 3, 8}, integer(1), boolean(1), object(1, []int{4}, sequence([]int{6}, none()))),
		nested(10), record(nested(9), nested(3)),
	}
}

// draws are numbers that look drawn, the same ones each time.
type draws uint64

func (d *draws) below(n int) int {
	*d = *d*6364136223846793005 + 1442695040888963407
	return int(uint64(*d)>>33) % n
}

// number draws small numbers mostly, and ends of ranges.
func (d *draws) number() int {
	if d.below(4) > 0 {
		return d.below(9) - 4
	}
	return []int{-1 << 63, 1<<63 - 1, 1<<31 - 1, 1 << 31, -1 << 31, 255, 256, 1 << 40}[d.below(8)]
}

// value draws a value that is valid if its choice happens to be; levels is how deep it may be.
func (d *draws) value(levels int) api.Value {
	kinds := 10
	if levels == 1 {
		kinds = 5
	}
	switch d.below(kinds) + 1 {
	case api.VBool:
		return boolean(d.below(2))
	case api.VInt:
		return integer(d.number())
	case api.VText:
		return text(strings.Repeat("t", d.below(12)))
	case api.VBytes:
		return blob(strings.Repeat("\x00b", d.below(9)))
	case api.VList:
		return list(integers(d.number(), d.number())[:d.below(3)]...)
	case api.VStruct:
		return record(d.values(levels - 1)...)
	case api.VObject:
		return d.object(levels)
	case api.VChoice:
		n := d.number()
		return choice(api.CEnum, n, n/2+1, n)
	case api.VSequence:
		return d.sequence(levels)
	}
	return none()
}

func (d *draws) values(levels int) []api.Value {
	var out []api.Value
	for range d.below(4) {
		out = append(out, d.value(levels))
	}
	return out
}

func (d *draws) object(levels int) api.Value {
	kids := d.values(levels - 1)
	return object(d.below(2), d.ascending(len(kids), 1), kids...)
}

func (d *draws) sequence(levels int) api.Value {
	kids := d.values(levels - 1)
	for i, kid := range kids {
		if kid.Kind == api.VSequence {
			kids[i] = none()
		}
	}
	return sequence(d.ascending(len(kids), 0), kids...)
}

func (d *draws) ascending(n, least int) []int {
	var out []int
	at := d.below(3)
	for range n {
		out = append(out, at)
		at += least + d.below(3)
	}
	return out
}

// drawn returns valid values, the same ones each time.
func drawn(seed draws, count int) []api.Value {
	var out []api.Value
	for len(out) < count {
		if v := seed.value(5); value.Valid(v) {
			out = append(out, v)
		}
	}
	return out
}

func encoded(t *testing.T, v api.Value) string {
	t.Helper()
	s, e := value.Encode(v)
	if e != api.OK {
		t.Fatalf("Encode(%v) = %d", v, e)
	}
	return s
}

// isZero reports whether a result is the zero value, as beside an error.
func isZero(v api.Value) bool { return value.Same(v, api.Value{}) }
