package layout

import (
	"iter"
	"slices"

	"continuo/api"
)

// sizes are how many rows a matrix has, and how many weights each of them.
type sizes struct{ rows, columns int }

// matrix is a valid matrix with its sizes.
type matrix struct {
	sizes
	weights [][]int
}

// place is where a weight stands.
type place struct{ row, column int }

// ValidMatrix reports whether a matrix has 1 to 8 rows of 1 to 8 weights each, as many in all rows.
func ValidMatrix(m [][]int) bool {
	if !isChannels(len(m)) || !isChannels(len(m[0])) {
		return false
	}
	for _, row := range m {
		if len(row) != len(m[0]) || !allWithin(row, api.MaxGain) {
			return false
		}
	}
	return true
}

// matrixOf returns a matrix with its sizes; one that is not valid does not fit.
func matrixOf(m [][]int) matrix {
	must(ValidMatrix(m), api.ErrInvalid)
	return matrix{sizes{len(m), len(m[0])}, m}
}

// all goes over the weights that are not 0, row by row.
func (m matrix) all() iter.Seq2[place, int] {
	return func(yield func(place, int) bool) {
		for i, row := range m.weights {
			for k, w := range row {
				if w != 0 && !yield(place{i, k}, w) {
					return
				}
			}
		}
	}
}

// Identity is the matrix of n channels that leaves them as they are.
func Identity(n int) ([][]int, api.Errno) {
	if !isChannels(n) {
		return nil, api.ErrRange
	}
	m := zeros(n, n)
	for i := range n {
		m[i][i] = api.One
	}
	return m, api.OK
}

// Normal returns a matrix whose rows that are not normal are scaled.
func Normal(m [][]int) ([][]int, api.Errno) {
	return fitted(func() [][]int {
		a := matrixOf(m)
		out := make([][]int, a.rows)
		for i, row := range a.weights {
			out[i] = normal(row)
		}
		return out
	})
}

// normal returns a row whose weights, all taken above 0, are at most One in sum; Go's division goes towards 0.
func normal(row []int) []int {
	sum := 0
	for _, w := range row {
		sum += max(w, -w)
	}
	out := slices.Clone(row)
	if sum <= api.One {
		return out
	}
	for i, w := range row {
		out[i] = w * api.One / sum
	}
	return out
}

// Pick is the matrix that brings a layout's channels into another order of just the same positions.
func Pick(l, order []int) ([][]int, api.Errno) {
	return fitted(func() [][]int {
		must(Valid(l) && Valid(order), api.ErrInvalid)
		must(len(l) == len(order), api.ErrKind)
		m := zeros(len(order), len(l))
		for row, p := range order {
			column := slices.Index(l, p)
			must(column >= 0, api.ErrKind)
			m[row][column] = api.One
		}
		return m
	})
}

// Plain reports whether each row and each column has at most one weight, which is One.
func Plain(m [][]int) (bool, api.Errno) {
	return fitted(func() bool {
		var rows, columns [api.MaxChannels]bool
		for at, w := range matrixOf(m).all() {
			if w != api.One || rows[at.row] || columns[at.column] {
				return false
			}
			rows[at.row], columns[at.column] = true, true
		}
		return true
	})
}
