package value

import "continuo/api"

// stop is what a reader panics with: where the text is wrong, and what is wrong.
type stop struct {
	bad int
	e   api.Errno
}

// span is a value that is being read: its first byte, the end of its body, its level.
// What holds the outermost value is a span of level 0 that ends at MaxText.
type span struct{ first, end, level int }

// reader reads a text from the left; values counts those that have begun.
type reader struct {
	text   string
	at     int
	values int
}

// value reads the next value of what holds it.
func (r *reader) value(holder span) api.Value {
	in := span{first: r.at, level: holder.level + 1}
	length := number(r.take(4, in, anyByte))
	kind := number(r.take(4, in, anyByte))
	r.values++
	if in.level > api.MaxDeep || r.values > api.MaxValues {
		panic(stop{in.first, api.ErrLimit})
	}
	if !kindThere(kind) || !lengthFits(kind, length) || r.at+padded(length) > holder.end {
		in.wrong()
	}
	in.end = r.at + length
	v := r.body(kind, in)
	r.take(padded(length)-length, in, zeroByte)
	if !sound(v) {
		in.wrong()
	}
	return v
}

// wrong stops the reader: this value is the first one that is not as it should be.
func (in span) wrong() {
	panic(stop{in.first, api.ErrData})
}

// lengthFits reports whether a kind can have bodies of a length.
func lengthFits(kind, length int) bool {
	switch kind {
	case api.VNone:
		return length == 0
	case api.VBool:
		return length == 4
	case api.VInt:
		return length == 8
	case api.VObject, api.VChoice:
		return length >= 8
	}
	return true
}

func (r *reader) body(kind int, in span) api.Value {
	v := api.Value{Kind: kind}
	switch kind {
	case api.VBool:
		v.N = number(r.take(4, in, boolByte))
	case api.VInt:
		v.N = number(r.take(8, in, anyByte))
	case api.VText:
		v.S = r.take(in.end-r.at, in, textByte)
	case api.VBytes:
		v.S = r.take(in.end-r.at, in, anyByte)
	case api.VList, api.VStruct:
		v.Kids = r.kids(in)
	case api.VObject:
		v.N = r.wide(in, typeByte)
		v.Keys, v.Kids = r.keyed(in)
	case api.VChoice:
		v.N = r.wide(in, choiceByte)
		v.Kids = r.kids(in)
	case api.VSequence:
		v.Keys, v.Kids = r.keyed(in)
	}
	return v
}

// kids reads what is left of a body as values.
func (r *reader) kids(in span) []api.Value {
	var kids []api.Value
	for r.at < in.end {
		r.needEight(in)
		kid := r.value(in)
		kids = append(kids, kid)
	}
	return kids
}

// keyed reads what is left of a body as values with their keys or times.
func (r *reader) keyed(in span) ([]int, []api.Value) {
	var keys []int
	var kids []api.Value
	for r.at < in.end {
		r.needEight(in)
		key := r.wide(in, anyByte)
		r.needEight(in)
		kid := r.value(in)
		keys = append(keys, key)
		kids = append(kids, kid)
	}
	return keys, kids
}

// needEight stops the reader where a body has no room for what must come next: a key, or the beginning of a value.
func (r *reader) needEight(in span) {
	if in.end-r.at < 8 {
		in.wrong()
	}
}

// wide reads a number of four bytes with four zero bytes behind it.
func (r *reader) wide(in span, fits func(i int, b byte) bool) int {
	n := number(r.take(4, in, fits))
	r.take(4, in, zeroByte)
	return n
}

// take reads n bytes of a value. It asks each that is there before it tells that others are missing,
// since a text is only too short if nothing in it is wrong.
func (r *reader) take(n int, in span, fits func(i int, b byte) bool) string {
	there := r.text[r.at:min(r.at+n, len(r.text))]
	for i := range len(there) {
		if !fits(i, there[i]) {
			in.wrong()
		}
	}
	if len(there) < n {
		panic(stop{len(r.text), api.ErrNone})
	}
	r.at += n
	return there
}

// number returns what at most eight bytes mean, the least first.
func number(s string) int {
	n := 0
	for i := range len(s) {
		n |= int(s[i]) << (8 * i)
	}
	return n
}

func anyByte(int, byte) bool { return true }

func zeroByte(_ int, b byte) bool { return b == 0 }

func textByte(_ int, b byte) bool { return b != 0 }

// boolByte: a number of 0 or 1.
func boolByte(i int, b byte) bool { return b == 0 || i == 0 && b == 1 }

// typeByte: a number of at most 2^31 - 1.
func typeByte(i int, b byte) bool { return i < 3 || b <= 127 }

// choiceByte: a number that is a kind of choice.
func choiceByte(i int, b byte) bool {
	if i > 0 {
		return b == 0
	}
	return b >= api.COne && b <= api.CStep
}
