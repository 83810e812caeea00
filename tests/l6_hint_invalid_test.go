package tests

import (
	"fmt"
	"math"
	"runtime"
	"slices"
	"strings"
	"sync"
	"testing"

	"loop.example/g01304/impl"
)

// Promise 11: every function accepts all arguments without panicking and modifies none of them.

// None of these is a hint of 3 wheels with 5 digits.
func badHints() []impl.Hint {
	bad := []impl.Hint{
		{}, hintWith("012", -1, 0), hintWith("012", 0, -1), hintWith("012", -1, 1), hintWith("012", 1, -1), hintWith("012", -1, -1), hintWith("012", 4, -1), hintWith("012", -1, 4),
		hintWith("012", 4, 0), hintWith("012", 0, 4), hintWith("012", 3, 1), hintWith("012", 1, 3), hintWith("012", 2, 2), hintWith("012", 3, 3),
		hintWith("012", math.MaxInt, 0), hintWith("012", 0, math.MaxInt), hintWith("012", math.MinInt, 0), hintWith("012", 0, math.MinInt),
		hintWith("012", math.MaxInt, math.MaxInt), hintWith("012", math.MinInt, math.MinInt), hintWith("012", math.MaxInt, math.MinInt), hintWith("012", math.MinInt, math.MaxInt),
		hintWith("012", math.MaxInt, 1), hintWith("012", 1, math.MaxInt), hintWith("012", math.MaxInt-1, 3), hintWith("012", 1<<62, 1<<62), hintWith("012", 1<<32, 0), hintWith("012", 0, 256),
	}
	for _, code := range badCodes() {
		bad = append(bad, hintWith(code, 0, 0), hintWith(code, 1, 1))
	}
	return bad
}

func TestPromise11LocksWithoutHints(t *testing.T) {
	for _, l := range badSearched() {
		zeros := strings.Repeat("0", max(0, min(l.Wheels, 10)))
		for _, code := range []string{"", "0", "1", "00", zeros, strings.ReplaceAll(zeros, "0", "1")} {
			for _, hints := range [][]impl.Hint{nil, {}, {{}}, {hintWith(code, 0, 0)}, {hintWith(code, 1, 0)}, {hintWith(zeros, 0, 1), hintWith(code, -1, 0)}} {
				what := fmt.Sprint(l, hints, code)
				are, ok := impl.AreHints(l, hints)
				fails(t, "AreHints "+what, are, ok)
				failsWithHints(t, what, l, hints, code)
				failsWithManyHinted(t, what, l, hints)
			}
			what := fmt.Sprint(l, code)
			failsHintOf(t, what, l, code, code)
			failsHintOf(t, what, l, code, zeros)
			failsWithPlay(t, what, l, code)
		}
		for _, told := range [][]int{{0, 0}, {1, 0}, {0, 1}, {-1, 0}, {l.Wheels, 0}} {
			n, ok := impl.CountWithHint(l, told[0], told[1])
			fails(t, fmt.Sprint("CountWithHint ", l, told), n, ok)
		}
	}
}

// These have too many codes for some functions alone.
func TestPromise11LocksWithTooManyCodesForBestGuesses(t *testing.T) {
	for _, l := range locksOver(mostHinted) {
		zeros := strings.Repeat("0", l.Wheels)
		for _, hints := range [][]impl.Hint{nil, {hintWith(zeros, l.Wheels, 0)}, {hintWith(zeros, 1, 0)}, {hintWith(zeros, 0, 1)}, {hintWith("", -1, 9)}} {
			failsWithManyHinted(t, fmt.Sprint(l, hints), l, hints)
		}
		searched := codesCounted(l) <= mostSearched
		_, _, ok := impl.HintOf(l, zeros, zeros)
		same(t, fmt.Sprint("HintOf ", l), ok, true, searched)
		_, ok = impl.AreHints(l, nil)
		same(t, fmt.Sprint("AreHints ", l), ok, true, searched)
		_, ok = impl.FittingCodes(l, nil)
		same(t, fmt.Sprint("FittingCodes ", l), ok, true, searched)
		_, ok = impl.HintTable(l, nil, zeros)
		same(t, fmt.Sprint("HintTable ", l), ok, true, searched)
		_, ok = impl.PlayFirst(l, zeros)
		same(t, fmt.Sprint("PlayFirst ", l), ok, true, searched)
		_, ok = impl.NeedlessHints(l, nil)
		same(t, fmt.Sprint("NeedlessHints ", l), ok, true, searched)
		_, ok = impl.CountWithHint(l, 1, 0)
		same(t, fmt.Sprint("CountWithHint ", l), ok, true, searched)
	}
}

func TestPromise11BadCodesWithHints(t *testing.T) {
	l := lockOf(3, 5)
	for _, code := range badCodes() {
		what := fmt.Sprintf("%.20q", code)
		failsHintOf(t, "the guess "+what, l, code, "000")
		failsHintOf(t, "the code "+what, l, "000", code)
		failsHintOf(t, "both "+what, l, code, code)
		failsWithPlay(t, what, l, code)
		// Where no code fits, or all do, the code is checked as well.
		for _, hints := range [][]impl.Hint{nil, {hintWith("012", 1, 0)}, {hintWith("012", 2, 1)}} {
			failsWithHintsAndCode(t, what, l, hints, code)
		}
	}
}

// A bad hint anywhere in a list makes it one that is none.
func TestPromise11BadHints(t *testing.T) {
	l, good := lockOf(3, 5), hintWith("012", 1, 1)
	for _, bad := range badHints() {
		lists := [][]impl.Hint{{bad}, {bad, good}, {good, bad}, {good, good, bad, good}, {bad, bad}, append(slices.Repeat([]impl.Hint{good}, impl.MaxHints-1), bad)}
		for _, hints := range lists {
			what := fmt.Sprintf("%d %.80q", len(hints), fmt.Sprint(hints))
			are, ok := impl.AreHints(l, hints)
			same(t, "AreHints "+what, are, ok, false)
			failsWithHints(t, what, l, hints, "012")
		}
	}
	are, ok := impl.AreHints(l, slices.Repeat([]impl.Hint{good}, impl.MaxHints))
	same(t, "AreHints of good ones", are, ok, true)
}

func TestPromise11HintsOfOtherLocks(t *testing.T) {
	hints := []impl.Hint{hintWith("404", 1, 1)}
	for _, l := range locksUpTo(mostSearched) {
		what := fmt.Sprint(l)
		are, ok := impl.AreHints(l, hints)
		same(t, "AreHints "+what, are, ok, l.Wheels == 3 && l.Digits >= 5)
		if !are {
			failsWithHints(t, what, l, hints, strings.Repeat("0", l.Wheels))
		}
	}
}

func TestPromise11TooManyHints(t *testing.T) {
	for _, l := range locksUpTo(mostSearched) {
		code := strings.Repeat("1", l.Wheels)
		for _, hint := range []impl.Hint{hintWith(code, l.Wheels, 0), hintWith(code, 0, 0), hintWith(code, 0, l.Wheels)} {
			most := slices.Repeat([]impl.Hint{hint}, impl.MaxHints)
			are, ok := impl.AreHints(l, most)
			same(t, fmt.Sprint("AreHints ", l, most), are, ok, true)
			_, ok = impl.CountFitting(l, most)
			same(t, fmt.Sprint("CountFitting ", l, most), ok, true, true)
			for _, count := range []int{impl.MaxHints + 1, 2 * impl.MaxHints, 1000} {
				hints := slices.Repeat([]impl.Hint{hint}, count)
				what := fmt.Sprint(l, hint, count)
				are, ok := impl.AreHints(l, hints)
				same(t, "AreHints "+what, are, ok, false)
				failsWithHints(t, what, l, hints, code)
			}
		}
	}
}

func TestPromise11NumbersOfCountWithHint(t *testing.T) {
	numbers := []int{math.MinInt, math.MinInt + 1, -7, -1, 0, 1, 2, 3, 4, 5, 6, 7, 1 << 32, 1 << 62, math.MaxInt - 1, math.MaxInt}
	for _, l := range locksUpTo(mostSearched) {
		for _, places := range numbers {
			for _, others := range numbers {
				n, ok := impl.CountWithHint(l, places, others)
				what := fmt.Sprint("CountWithHint ", l, places, others)
				if slices.ContainsFunc(placesAndOthers(l), func(told []int) bool { return slices.Equal(told, []int{places, others}) }) {
					same(t, what, ok, true, true)
					continue
				}
				fails(t, what, n, ok)
			}
		}
	}
}

func spoilRows(rows [][]int) {
	for _, row := range rows {
		row = row[:cap(row)]
		for i := range row {
			row[i] = -99
		}
	}
	clear(rows[:cap(rows)])
}

// callHints calls all functions of chapter 6, tells what they return, and spoils the lists.
func callHints(l impl.Lock, hints []impl.Hint, code string, places int, others int) string {
	var told []any
	tell := func(results ...any) { told = append(told, results...) }
	tellNumber := func(number int, ok bool) { tell(number, ok) }
	tellIs := func(is bool, ok bool) { tell(is, ok) }
	tellTexts := func(texts []string, ok bool) {
		tell(slices.Clone(texts), ok)
		spoilTexts(texts)
	}
	tellRows := func(rows [][]int, ok bool) {
		tell(fmt.Sprint(rows), ok)
		spoilRows(rows)
	}
	a, b, ok := impl.HintOf(l, code, code)
	tell(a, b, ok)
	tellIs(impl.AreHints(l, hints))
	tellIs(impl.FitsHints(l, hints, code))
	tellNumber(impl.CountFitting(l, hints))
	tellTexts(impl.FittingCodes(l, hints))
	tellRows(impl.HintTable(l, hints, code))
	tellNumber(impl.WorstOfGuess(l, hints, code))
	guess, worst, ok := impl.BestGuess(l, hints)
	tell(guess, worst, ok)
	played, ok := impl.PlayFirst(l, code)
	tell(slices.Clone(played), ok)
	clear(played[:cap(played)])
	tellNumber(impl.CountGuesses(l, code))
	tellNumber(impl.MostGuesses(l))
	tellTexts(impl.HardestCodes(l))
	indices, ok := impl.NeedlessHints(l, hints)
	tell(slices.Clone(indices), ok)
	clear(indices[:cap(indices)])
	tellRows(impl.PossibleHints(l))
	tellNumber(impl.CountWithHint(l, places, others))
	return fmt.Sprint(told...)
}

func TestPromise11HintsAreLeftAlone(t *testing.T) {
	d := &drawn{last: 11}
	for _, l := range []impl.Lock{lockOf(1, 5), lockOf(2, 2), lockOf(2, 10), lockOf(3, 4), lockOf(4, 4), lockOf(6, 3)} {
		codes := codesOf(l)
		for count := range impl.MaxHints + 1 {
			what := fmt.Sprint(l, count)
			code := d.codeOf(codes)
			told := d.hintsFor(codes, code, count)
			room := slices.Concat([]impl.Hint{hintWith("before", -1, -1)}, told, []impl.Hint{hintWith("behind", -2, -2), hintWith("it", -3, -3)})
			before := slices.Clone(room)
			hints := room[1 : len(room)-2]
			first := callHints(l, hints, code, 1, 0)
			for range 3 { // what is told does not hang on the order of a map either
				same(t, "the same calls again "+what, callHints(l, hints, code, 1, 0), true, first)
			}
			same(t, "without room behind the list "+what, callHints(l, slices.Clip(slices.Clone(told)), code, 1, 0), true, first)
			sameList(t, "the list "+what, room, true, before)
		}
		same(t, fmt.Sprint("nil and empty lists ", l), callHints(l, []impl.Hint{}, codes[1], 1, 0), true, callHints(l, nil, codes[1], 1, 0))
	}
}

func TestPromise11ListsThatAreNoHintsAreLeftAlone(t *testing.T) {
	good := hintWith("012", 1, 1)
	for _, bad := range badHints() {
		hints := []impl.Hint{good, bad, good}
		before := slices.Clone(hints)
		callHints(lockOf(3, 5), hints, "777", -1, 99)
		sameList(t, "the list", hints, true, before)
	}
	many := slices.Repeat([]impl.Hint{good}, 50)
	before := slices.Clone(many)
	callHints(lockOf(3, 5), many, "000", 1, 1)
	sameList(t, "a long list", many, true, before)
}

// No two rows share memory: what is put behind one, or into it, is in no other one.
func TestPromise11RowsShareNoMemory(t *testing.T) {
	l := lockOf(4, 4)
	takes := map[string]func() ([][]int, bool){
		"HintTable":     func() ([][]int, bool) { return impl.HintTable(l, nil, "0012") },
		"PossibleHints": func() ([][]int, bool) { return impl.PossibleHints(l) },
	}
	for what, take := range takes {
		rows, ok := take()
		want := fmt.Sprint(rows)
		for i, row := range rows {
			others := fmt.Sprint(slices.Concat(rows[:i], rows[i+1:]))
			kept := slices.Clone(row)
			_ = append(row, -99, -99, -99)
			for k := range row {
				row[k] = -99
			}
			same(t, fmt.Sprint(what, " beside the row ", i), fmt.Sprint(slices.Concat(rows[:i], rows[i+1:])), ok, others)
			copy(row, kept)
		}
		spoilRows(rows)
		rows, ok = take()
		same(t, what+" again", fmt.Sprint(rows), ok, want)
	}
}

func TestPromise11NothingPanicsWithHints(t *testing.T) {
	locks := append(badLocks(), lockOf(1, 2), lockOf(2, 3), lockOf(3, 5), lockOf(3, 10), lockOf(6, 10))
	codes := append(badCodes(), "0", "1", "00", "22", "000", "444", "999", "000000", "999999")
	numbers := []int{math.MinInt, math.MinInt + 1, -1, 0, 1, 2, 3, 6, 7, 1 << 62, math.MaxInt - 1, math.MaxInt}
	for _, l := range locks {
		for i, code := range codes {
			for k, places := range numbers {
				others := numbers[(i+k*5)%len(numbers)]
				callHints(l, []impl.Hint{hintWith(codes[(i*5+1)%len(codes)], others, places), hintWith(code, places, others)}, code, places, others)
			}
		}
	}
}

// hintCalls are calls that end in all ways: with all codes, with some or none of them, and at once.
func hintCalls() map[string]func() {
	fitting := func(l impl.Lock, hints ...impl.Hint) func() {
		return func() { impl.FittingCodes(l, hints) }
	}
	l, largest := lockOf(3, 4), lockOf(3, 10)
	good, none := hintWith("012", 1, 1), hintWith("012", 2, 1)
	return map[string]func(){
		"all codes":       fitting(largest),
		"some codes":      fitting(largest, good),
		"the first code":  fitting(largest, hintWith("000", 3, 0)),
		"the last code":   fitting(largest, hintWith("999", 3, 0)),
		"no code":         fitting(largest, none),
		"no hints":        fitting(l, hintWith("012", 3, 1)),
		"no lock":         fitting(lockOf(0, 0)),
		"a large lock":    fitting(lockOf(6, 10)),
		"a table":         func() { impl.HintTable(l, []impl.Hint{good}, "333") },
		"no table":        func() { impl.HintTable(l, []impl.Hint{good}, "444") },
		"a worst guess":   func() { impl.WorstOfGuess(l, []impl.Hint{none}, "333") },
		"a best guess":    func() { impl.BestGuess(l, []impl.Hint{good}) },
		"no best guess":   func() { impl.BestGuess(l, []impl.Hint{none}) },
		"too many codes":  func() { impl.BestGuess(largest, nil) },
		"a short play":    func() { impl.PlayFirst(largest, "000") },
		"a long play":     func() { impl.PlayFirst(largest, "999") },
		"no play":         func() { impl.PlayFirst(largest, "99") },
		"needless hints":  func() { impl.NeedlessHints(l, []impl.Hint{good, good, none}) },
		"hardest codes":   func() { impl.HardestCodes(l) },
		"possible hints":  func() { impl.PossibleHints(l) },
		"codes with some": func() { impl.CountWithHint(l, 1, 0) },
		"codes with none": func() { impl.CountWithHint(l, 1, 9) },
		"all functions":   func() { callHints(l, []impl.Hint{good}, "333", 1, 0) },
		"all that fail":   func() { callHints(l, []impl.Hint{hintWith("444", 1, 1)}, "444", 4, 0) },
	}
}

// One that has ended is counted for a moment yet, so that they are counted again and again before they count as left.
func TestPromise11NoGoroutineIsLeftByHints(t *testing.T) {
	for what, call := range hintCalls() {
		before := runtime.NumGoroutine()
		for range 50 {
			call()
		}
		for tries := 0; runtime.NumGoroutine() > before && tries < 1000000; tries++ {
			runtime.Gosched()
		}
		if left := runtime.NumGoroutine() - before; left > 0 {
			t.Errorf("%s: %d goroutines are left", what, left)
		}
	}
}

// With one processor a goroutine that is not waited for may have had no turn to end when the call returns.
// One that has ended may seldom be counted yet, so that some calls out of many are let pass.
func TestPromise11GoroutinesOfHintsAreWaitedFor(t *testing.T) {
	defer runtime.GOMAXPROCS(runtime.GOMAXPROCS(1))
	for what, call := range hintCalls() {
		late := 0
		for range 40 {
			before := runtime.NumGoroutine()
			call()
			if runtime.NumGoroutine() > before {
				late++
			}
			for tries := 0; runtime.NumGoroutine() > before && tries < 1000; tries++ {
				runtime.Gosched()
			}
		}
		if late > 10 {
			t.Errorf("%s: goroutines went on behind %d of 40 calls", what, late)
		}
	}
}

func TestPromise11HintsAtTheSameTime(t *testing.T) {
	l, hints := lockOf(3, 5), []impl.Hint{hintWith("012", 1, 1), hintWith("344", 0, 1)}
	want := callHints(l, hints, "143", 2, 0)
	told := make([]string, 16)
	var callers sync.WaitGroup
	for i := range told {
		callers.Go(func() {
			for range 5 {
				told[i] = callHints(l, hints, "143", 2, 0)
			}
		})
	}
	callers.Wait()
	for _, s := range told {
		same(t, "calls at the same time", s, true, want)
	}
}
