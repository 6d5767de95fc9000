package tests

import (
	"slices"
	"testing"

	"loop.example/g00610/impl"
)

const mostInLine = 40

// lineOf has n Values, no two of them alike, and not in the order of numbers.
func lineOf(n int) []int64 {
	l := make([]int64, n)
	for at := range l {
		l[at] = 1 + int64(at)*37%101
	}
	return l
}

func rightValues() []int64 { return []int64{1, 2, 38, mostValue - 1, mostValue} }

// lineWith has that value at at, and is else as l is.
func lineWith(l []int64, at int, value int64) []int64 {
	l = slices.Clone(l)
	l[at] = value
	return l
}

// wrongLines are one too long, or have one Value that is none, or both.
func wrongLines() [][]int64 {
	all := [][]int64{lineOf(mostInLine + 1), lineOf(mostInLine + 2), slices.Repeat([]int64{1}, 100000)}
	for _, n := range []int{1, 2, 3, mostInLine - 1, mostInLine, mostInLine + 1} {
		for _, value := range noValues() {
			for _, at := range []int{0, n / 2, n - 1} {
				all = append(all, lineWith(lineOf(n), at, value))
			}
		}
	}
	return all
}

// The long ones are not to be read in what a test tells.
func shortened(l []int64) []int64 { return l[:min(len(l), mostInLine+2)] }

func checkLineOk(t *testing.T, name string, l []int64, want bool) {
	t.Helper()
	if got := impl.LineOk(l); got != want {
		t.Errorf("%s: LineOk(%v) = %v, of %d", name, shortened(l), got, len(l))
	}
}

func checkLineAnd(t *testing.T, name string, got []int64, is bool, want []int64, wantIs bool) {
	t.Helper()
	if is != wantIs || !slices.Equal(got, want) {
		t.Errorf("%s: %v, %v, not %v, %v", name, shortened(got), is, shortened(want), wantIs)
	}
}

func checkLinePut(t *testing.T, name string, l []int64, value int64, want []int64, wantIs bool) {
	t.Helper()
	got, is := impl.LinePut(l, value)
	checkLineAnd(t, name, got, is, want, wantIs)
}

func checkLineTake(t *testing.T, name string, l, want []int64, wantValue int64, wantIs bool) {
	t.Helper()
	got, value, is := impl.LineTake(l)
	checkLineAnd(t, name, got, is, want, wantIs)
	if value != wantValue {
		t.Errorf("%s: %d, not %d", name, value, wantValue)
	}
}

func TestLineOkCountsValues(t *testing.T) {
	checkLineOk(t, "nil", nil, true)
	checkLineOk(t, "no Values", []int64{}, true)
	checkLineOk(t, "no Values, spare room", noValues()[:0], true)
	for n := range 2*mostInLine + 2 {
		checkLineOk(t, "as many", lineOf(n), n <= mostInLine)
		checkLineOk(t, "one Value only", slices.Repeat([]int64{7}, n), n <= mostInLine)
		checkLineOk(t, "spare room", withSpareRoom(lineOf(n), -1), n <= mostInLine)
	}
	checkLineOk(t, "very many", slices.Repeat([]int64{1}, 100000), false)
}

func TestLineOkAsksEachValue(t *testing.T) {
	for n := 1; n <= mostInLine+1; n++ {
		for at := range n {
			for _, value := range rightValues() {
				checkLineOk(t, "all right", lineWith(lineOf(n), at, value), n <= mostInLine)
			}
			for _, value := range noValues() {
				checkLineOk(t, "one wrong", lineWith(lineOf(n), at, value), false)
			}
		}
	}
}

func TestLineOkOfWrongLines(t *testing.T) {
	for _, l := range wrongLines() {
		checkLineOk(t, "wrong", l, false)
	}
}

func TestLinePut(t *testing.T) {
	for _, value := range rightValues() {
		checkLinePut(t, "nil", nil, value, []int64{value}, true)
		for n := range mostInLine {
			l := lineOf(n)
			checkLinePut(t, "room", l, value, append(slices.Clone(l), value), true)
		}
	}
	for n := 1; n < mostInLine; n++ {
		l := lineOf(n)
		checkLinePut(t, "the first one again", l, l[0], append(slices.Clone(l), l[0]), true)
		checkLinePut(t, "the last one again", l, l[n-1], append(slices.Clone(l), l[n-1]), true)
	}
}

func TestLinePutRefuses(t *testing.T) {
	full := lineOf(mostInLine)
	for _, value := range append(rightValues(), full[0], full[mostInLine-1]) {
		checkLinePut(t, "no room", full, value, full, false)
	}
	for _, value := range noValues() {
		checkLinePut(t, "no Value, nil", nil, value, nil, false)
		for n := range mostInLine + 1 {
			checkLinePut(t, "no Value", lineOf(n), value, lineOf(n), false)
		}
	}
}

func TestLinePutOfNoLine(t *testing.T) {
	for _, l := range wrongLines() {
		for _, value := range append(noValues(), rightValues()...) {
			checkLinePut(t, "no line", l, value, nil, false)
		}
	}
}

func TestLineTake(t *testing.T) {
	for n := 1; n <= mostInLine; n++ {
		l := lineOf(n)
		checkLineTake(t, "the first one", l, l[1:], l[0], true)
		for _, value := range rightValues() {
			checkLineTake(t, "a Value", lineWith(l, 0, value), l[1:], value, true)
			checkLineTake(t, "alike", slices.Repeat([]int64{value}, n), slices.Repeat([]int64{value}, n-1), value, true)
		}
	}
}

func TestLineTakeOfNone(t *testing.T) {
	checkLineTake(t, "nil", nil, nil, 0, false)
	checkLineTake(t, "no Values", []int64{}, nil, 0, false)
	checkLineTake(t, "no Values, spare room", lineOf(3)[:0], nil, 0, false)
	for _, l := range wrongLines() {
		checkLineTake(t, "no line", l, nil, 0, false)
	}
}

func mustPut(t *testing.T, l []int64, value int64) []int64 {
	t.Helper()
	l, is := impl.LinePut(l, value)
	if !is {
		t.Fatalf("%d is not put: %v", value, l)
	}
	return l
}

func mustTake(t *testing.T, l []int64, want int64) []int64 {
	t.Helper()
	l, value, is := impl.LineTake(l)
	if !is || value != want {
		t.Fatalf("%d, %v, not %d, of which is left %v", value, is, want, l)
	}
	return l
}

func TestWhatIsPutIsTakenInOrder(t *testing.T) {
	for n := range mostInLine + 1 {
		var l []int64
		for _, value := range lineOf(n) {
			l = mustPut(t, l, value)
		}
		checkLineOk(t, "all put", l, true)
		checkList(t, "all put", l, lineOf(n))
		for _, value := range lineOf(n) {
			l = mustTake(t, l, value)
		}
		checkLineTake(t, "all taken", l, nil, 0, false)
	}
}

// There are always so many more put than taken, up to a line that is full all
// the time.
func TestPutsAndTakesAlternate(t *testing.T) {
	const values = 200
	for ahead := range int64(mostInLine) {
		var l []int64
		for value := range int64(values) {
			l = mustPut(t, l, value+1)
			if value >= ahead {
				l = mustTake(t, l, value+1-ahead)
			}
		}
		for left := range ahead {
			l = mustTake(t, l, values+1-ahead+left)
		}
		checkLineTake(t, "nothing left", l, nil, 0, false)
	}
}

// A drawnLine is a line, and beside it all that was put into it, of which so
// many are gone.
type drawnLine struct {
	line, all []int64
	gone      int
}

func (d *drawnLine) left() []int64 { return d.all[d.gone:] }

func (d *drawnLine) put(t *testing.T, value int64) {
	t.Helper()
	room := len(d.left()) < mostInLine
	if room {
		d.all = append(d.all, value)
	}
	checkLinePut(t, "drawn", d.line, value, d.left(), room)
	d.line, _ = impl.LinePut(d.line, value)
}

func (d *drawnLine) take(t *testing.T) {
	t.Helper()
	if len(d.left()) == 0 {
		checkLineTake(t, "drawn", d.line, nil, 0, false)
		return
	}
	first := d.left()[0]
	d.gone++
	checkLineTake(t, "drawn", d.line, d.left(), first, true)
	d.line = mustTake(t, d.line, first)
}

// Of eight, so many are puts; so a line gets full, and gets empty.
func TestDrawnPutsAndTakes(t *testing.T) {
	full, empty := 0, 0
	for seed := range lottery(40) {
		d := &drawnLine{}
		for _, puts := range []int64{7, 4, 1, 4} {
			for range 100 {
				if seed.draw(0, 8) < puts {
					d.put(t, seed.draw(1, mostValue+1))
				} else {
					d.take(t)
				}
				switch len(d.left()) {
				case mostInLine:
					full++
				case 0:
					empty++
				}
			}
		}
	}
	if full == 0 || empty == 0 {
		t.Errorf("%d times full, %d times empty", full, empty)
	}
}
