package format

import (
	"cabochon/api"
	"math"
	"slices"
	"strings"
	"testing"
)

// lined calls Columns with rows that fit.
func lined(t *testing.T, rows [][]string, gap int, want []string) {
	t.Helper()
	kept := make([][]string, 0, len(rows))
	for _, row := range rows {
		kept = append(kept, slices.Clone(row))
	}
	lines, err := Columns(rows, gap)
	if !slices.Equal(lines, want) || err != api.OK {
		t.Errorf("Columns of %.200q, %d: %.200q (error %d), not %.200q", rows, gap, lines, err, want)
	}
	if !slices.EqualFunc(rows, kept, slices.Equal) {
		t.Errorf("Columns changed %.200q", rows)
	}
}

// notLined calls Columns with what is an error.
func notLined(t *testing.T, rows [][]string, gap int) {
	t.Helper()
	if lines, err := Columns(rows, gap); len(lines) != 0 || err != api.ErrArg {
		t.Errorf("Columns of %.200q, %d: %.200q, error %d", rows, gap, lines, err)
	}
}

// P4.3
func TestColumns(t *testing.T) {
	lined(t, nil, 0, nil)
	lined(t, [][]string{}, 100, nil)
	lined(t, [][]string{{}}, 5, []string{""})
	lined(t, [][]string{nil, {}, nil}, 5, []string{"", "", ""})
	lined(t, [][]string{{""}}, 5, []string{""})
	lined(t, [][]string{{"", ""}}, 2, []string{"  "})
	lined(t, [][]string{{"", ""}}, 0, []string{""})
	lined(t, [][]string{{"", "", "a"}}, 2, []string{"    a"})
	lined(t, [][]string{{"a"}}, 5, []string{"a"})
	lined(t, [][]string{{"a"}, {"bbb"}}, 5, []string{"a", "bbb"})
	lined(t, [][]string{{"a", "b"}}, 0, []string{"ab"})
	lined(t, [][]string{{"a", "b"}}, 1, []string{"a b"})
	lined(t, [][]string{{"a", "b", ""}}, 1, []string{"a b "})
	lined(t, [][]string{{"a", "bb"}, {"ccc", "d"}}, 0, []string{"a  bb", "cccd"})
	lined(t, [][]string{{"a", "bb"}, {"ccc", "d"}}, 2, []string{"a    bb", "ccc  d"})
	lined(t, [][]string{{"a", "bb", "c"}, {"ccc", "d", "eee"}}, 1, []string{"a   bb c", "ccc d  eee"})
	lined(t, [][]string{{"a", "bb"}, {"ccc"}, {"d", "e", "f"}}, 1, []string{"a   bb", "ccc", "d   e  f"})
	lined(t, [][]string{{"d", "e", "f"}, {"a", "bb"}, {"ccc"}, {}}, 1, []string{"d   e  f", "a   bb", "ccc", ""}) // a row's last column counts too
	lined(t, [][]string{{}, {"a", "b"}, {"cc"}}, 1, []string{"", "a  b", "cc"})
	lined(t, [][]string{{"a", "", "b"}, {"a", "bb", "c"}}, 1, []string{"a    b", "a bb c"})
	lined(t, [][]string{{"é", "x"}, {"abc", "x"}}, 1, []string{"é  x", "abc x"}) // bytes, not characters
	lined(t, [][]string{{"%d", "\n", "\x00\xFF"}, {" ", "", "a"}}, 1, []string{"%d \n \x00\xFF", "     a"})
	lined(t, [][]string{{"a", "b"}, {"cc", "d"}}, 99, []string{"a" + strings.Repeat(" ", 100) + "b", "cc" + strings.Repeat(" ", 99) + "d"})
	lined(t, [][]string{{"a", "b"}, {"cc", "d"}}, 100, []string{"a" + strings.Repeat(" ", 101) + "b", "cc" + strings.Repeat(" ", 100) + "d"})
}

// P4.3: gaps, rows, columns and bytes beyond their limits.
func TestLimitsOfColumns(t *testing.T) {
	for _, gap := range []int{-1, -100, 101, 102, 1000, 1 << 32, math.MaxInt, math.MinInt} {
		notLined(t, nil, gap)
		notLined(t, [][]string{{"a", "b"}}, gap)
	}
	cell := strings.Repeat("x", 200)
	lined(t, [][]string{{cell}}, 1, []string{cell})
	lined(t, [][]string{{"a", "b"}, {cell, cell}}, 1, []string{"a" + strings.Repeat(" ", 200) + "b", cell + " " + cell})
	notLined(t, [][]string{{cell + "x"}}, 1)
	notLined(t, [][]string{{"a", "b"}, {}, {"a", "b", cell + "x"}}, 1)
	notLined(t, [][]string{{cell + "x", "a"}, {"b"}}, 1)
	notLined(t, [][]string{{strings.Repeat("é", 101)}}, 1)

	rows := slices.Repeat([][]string{{"a", "b"}}, 201)
	lined(t, rows[:199], 1, slices.Repeat([]string{"a b"}, 199))
	lined(t, rows[:200], 1, slices.Repeat([]string{"a b"}, 200))
	notLined(t, rows, 1)
	notLined(t, slices.Repeat([][]string{nil}, 201), 1)

	row := slices.Repeat([]string{"a"}, 201)
	lined(t, [][]string{row[:199]}, 0, []string{strings.Repeat("a", 199)})
	lined(t, [][]string{row[:200]}, 0, []string{strings.Repeat("a", 200)})
	notLined(t, [][]string{row}, 0)
	notLined(t, [][]string{{"a"}, row}, 0)
	notLined(t, [][]string{slices.Repeat([]string{""}, 201)}, 0)

	most := slices.Repeat([][]string{slices.Repeat([]string{cell}, 200)}, 200)
	line := strings.Repeat(cell+strings.Repeat(" ", 100), 199) + cell
	lined(t, most, 100, slices.Repeat([]string{line}, 200))
}

// R5: a list is read up to its length alone, and a result is new memory.
func TestColumnsKeepNothing(t *testing.T) {
	row := []string{"a", "b", "longer"}
	rows := [][]string{row[:2], {"c", "d"}, {"much longer"}}
	lined(t, rows[:2], 1, []string{"a b", "c d"})
	if row[2] != "longer" || rows[2][0] != "much longer" {
		t.Errorf("%q, %q", row, rows)
	}
	first, _ := Columns(rows[:2], 1)
	first[0] = "changed"
	lined(t, rows[:2], 1, []string{"a b", "c d"})
}
