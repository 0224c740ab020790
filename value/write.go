package value

import "continuo/api"

// writer writes values that are valid; bodies are its functions by kind.
type writer struct {
	out    []byte
	bodies []func(w *writer, v api.Value)
}

func bodyWriters() []func(w *writer, v api.Value) {
	return []func(w *writer, v api.Value){
		api.VNone:     func(*writer, api.Value) {},
		api.VBool:     func(w *writer, v api.Value) { w.number(v.N, 4) },
		api.VInt:      func(w *writer, v api.Value) { w.number(v.N, 8) },
		api.VText:     (*writer).text,
		api.VBytes:    (*writer).text,
		api.VList:     (*writer).kids,
		api.VStruct:   (*writer).kids,
		api.VObject:   (*writer).object,
		api.VChoice:   (*writer).choice,
		api.VSequence: (*writer).keyed,
	}
}

func (w *writer) value(v api.Value) {
	first := len(w.out)
	w.number(0, 4)
	w.number(v.Kind, 4)
	w.bodies[v.Kind](w, v)
	w.setLength(first)
	w.number(0, padded(len(w.out))-len(w.out))
}

// setLength puts in the length of the body of the value at first, which is known only behind it.
func (w *writer) setLength(first int) {
	length := len(w.out) - first - 8
	for i := range 4 {
		w.out[first+i] = byte(length >> (8 * i))
	}
}

// number writes the lesser bytes of n, the least first.
func (w *writer) number(n, bytes int) {
	for i := range bytes {
		w.out = append(w.out, byte(n>>(8*i)))
	}
}

func (w *writer) text(v api.Value) {
	w.out = append(w.out, v.S...)
}

func (w *writer) kids(v api.Value) {
	for _, kid := range v.Kids {
		w.value(kid)
	}
}

func (w *writer) keyed(v api.Value) {
	for i, kid := range v.Kids {
		w.number(v.Keys[i], 8)
		w.value(kid)
	}
}

func (w *writer) object(v api.Value) {
	w.number(v.N, 8)
	w.keyed(v)
}

func (w *writer) choice(v api.Value) {
	w.number(v.N, 8)
	w.kids(v)
}
