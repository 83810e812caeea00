package tests

import (
	"fmt"
	"math"
	"slices"
	"sync"
	"testing"

	"loop.example/g01304/impl"
)

// Promise 11: every function accepts all arguments without panicking and modifies none of them.

func badMarks() []int {
	return []int{math.MinInt, math.MinInt + 1, -100, -10, -2, -1, 0, 1, 101, 102, 1000, 1 << 32, 1 << 62, math.MaxInt - 1, math.MaxInt}
}

// These are numbers that a dial does not have.
func badNumbers(marks int) []int {
	return []int{math.MinInt, math.MinInt + 1, -marks, -1, marks, marks + 1, 2 * marks, 1 << 32, 1 << 62, math.MaxInt - 1, math.MaxInt}
}

func badSteps() []int {
	return []int{math.MinInt, math.MinInt + 1, -1 << 62, -1 << 32, -2000, -1001, 0, 1001, 2000, 1 << 32, 1 << 62, math.MaxInt - 1, math.MaxInt}
}

func badSlacks() []int {
	return []int{math.MinInt, math.MinInt + 1, -100, -1, 101, 102, 1 << 32, 1 << 62, math.MaxInt - 1, math.MaxInt}
}

func badCounts() []int {
	return []int{math.MinInt, math.MinInt + 1, -3, -1, 0, 4, 5, 12, 100, 1 << 32, 1 << 62, math.MaxInt - 1, math.MaxInt}
}

func TestPromise11DialsWithoutSuchMarks(t *testing.T) {
	for _, marks := range badMarks() {
		for _, start := range []int{math.MinInt, -1, 0, 1, 5, marks - 1, marks, math.MaxInt} {
			failsWithDial(t, marks, start)
		}
		for _, slack := range []int{-1, 0, 1, 50, 100} {
			failsWithSlack(t, marks, slack)
		}
	}
	// The least and the greatest dial are dials.
	for _, marks := range []int{2, mostMarks} {
		for _, start := range []int{0, marks - 1} {
			sameOpening(t, marks, start, []int{marks - 1, 0})
		}
	}
}

func TestPromise11StartsThatDialsDoNotHave(t *testing.T) {
	for marks := 2; marks <= mostMarks; marks++ {
		for _, start := range badNumbers(marks) {
			failsWithDial(t, marks, start)
		}
	}
}

func TestPromise11NumbersThatDialsDoNotHave(t *testing.T) {
	for _, marks := range []int{2, 3, 10, 99, mostMarks} {
		for _, number := range badNumbers(marks) {
			what := fmt.Sprint(marks, number)
			for _, step := range []int{1, -1, 10, mostSpin, -mostSpin} {
				n, ok := impl.PassesOf(marks, 0, step, number)
				fails(t, "PassesOf "+what, n, ok)
			}
			good := []int{0, 1, 1, 0}
			for place := range good {
				code := slices.Clone(good)
				code[place] = number
				failsWithDialCode(t, marks, 0, code)
				failsWithDialCode(t, marks, 1, code[place:place+1])
				failsClose(t, "one code "+what, marks, 1, code, good)
				failsClose(t, "both codes "+what, marks, 1, code, code)
				failsClose(t, "far codes "+what, marks, 0, code, []int{1, 0, 0, 1})
			}
		}
	}
}

func failsClose(t *testing.T, what string, marks int, slack int, a []int, b []int) {
	t.Helper()
	is, ok := impl.AreClose(marks, slack, a, b)
	fails(t, "AreClose "+what, is, ok)
	is, ok = impl.AreClose(marks, slack, b, a)
	fails(t, "AreClose "+what, is, ok)
}

func TestPromise11DialCodesOfNoOrTooManyNumbers(t *testing.T) {
	for _, marks := range []int{2, 10, mostMarks} {
		for _, length := range []int{0, mostStops + 1, mostStops + 2, 100, 5000} {
			for number := range 2 {
				code := slices.Repeat([]int{number}, length)
				failsWithDialCode(t, marks, 0, code)
				failsClose(t, fmt.Sprint(marks, length), marks, mostMarks, code, code)
				failsClose(t, fmt.Sprint(marks, length), marks, mostMarks, code, []int{0})
			}
		}
		failsWithDialCode(t, marks, 0, nil)
		failsClose(t, "nil", marks, 0, nil, nil)
	}
	most := slices.Repeat([]int{1}, mostStops)
	is, ok := impl.AreClose(2, 0, most, most)
	same(t, "AreClose of the most numbers", is, ok, true)
	sameOpening(t, 2, 0, most)
}

// Codes of which one has more numbers than the other one are not compared.
func TestPromise11CodesOfOtherLengths(t *testing.T) {
	for length := 1; length <= mostStops; length++ {
		for other := 1; other <= mostStops; other++ {
			a, b := slices.Repeat([]int{1}, length), slices.Repeat([]int{1}, other)
			if length != other {
				failsClose(t, fmt.Sprint(length, other), 10, mostMarks, a, b)
				b[0] = 6
				failsClose(t, fmt.Sprint("far ", length, other), 10, 0, a, b)
			}
		}
	}
}

func TestPromise11BadSteps(t *testing.T) {
	for _, bad := range badSteps() {
		for _, steps := range [][]int{{bad}, {bad, -15, 3}, {23, bad, 3}, {23, -15, bad}, {bad, bad}, append(slices.Repeat([]int{1, -1}, 5), 1, bad)} {
			failsWithSteps(t, fmt.Sprint(steps), steps)
		}
		for marks := 2; marks <= mostMarks; marks++ {
			for number := range 2 {
				n, ok := impl.PassesOf(marks, 0, bad, number)
				fails(t, fmt.Sprint("PassesOf ", marks, bad), n, ok)
			}
			failsAsTurns(t, marks, 0, []int{bad})
		}
	}
}

func TestPromise11TooManySteps(t *testing.T) {
	for _, length := range []int{mostStops + 1, mostStops + 2, 100, 5000} {
		for _, step := range []int{1, -1, mostSpin, -mostSpin} {
			failsWithSteps(t, fmt.Sprint(length, step), slices.Repeat([]int{step}, length))
		}
		failsWithSteps(t, fmt.Sprint("to and fro ", length), slices.Repeat([]int{1, -1}, length)[:length])
	}
	most := slices.Repeat([]int{1}, mostStops)
	stops, ok := impl.StopsOf(12, 0, most)
	sameList(t, "StopsOf the most steps", stops, ok, []int{1, 2, 3, 4, 5, 6, 7, 8, 9, 10, 11, 0})
}

func TestPromise11BadSlacks(t *testing.T) {
	for marks := 2; marks <= mostMarks; marks++ {
		for _, slack := range badSlacks() {
			failsWithSlack(t, marks, slack)
		}
	}
}

func TestPromise11BadCountsOfNumbers(t *testing.T) {
	for marks := 2; marks <= mostMarks; marks++ {
		for _, numbers := range badCounts() {
			failsCloseCounts(t, marks, 1, numbers)
			failsCloseCounts(t, marks, 0, numbers)
			failsWithNumbers(t, marks, 1, numbers)
		}
	}
}

// These are dials, but of too many marks for some functions.
func TestPromise11TooManyMarksToSearch(t *testing.T) {
	for marks := mostSearchedMarks + 1; marks <= mostMarks; marks++ {
		for numbers := 1; numbers <= mostAskedNumbers; numbers++ {
			failsWithNumbers(t, marks, 0, numbers)
			failsWithNumbers(t, marks, marks-1, numbers)
		}
	}
}

func TestPromise11LengthsOutOfRange(t *testing.T) {
	for marks := 2; marks <= mostSearchedMarks; marks++ {
		for numbers := 1; numbers <= mostAskedNumbers; numbers++ {
			for _, length := range []int{math.MinInt, math.MinInt + 1, -41, -1, 10001, 10002, 1 << 32, 1 << 62, math.MaxInt - 1, math.MaxInt} {
				n, ok := impl.CountByLength(marks, 0, numbers, length)
				fails(t, fmt.Sprint("CountByLength ", marks, numbers, length), n, ok)
			}
			for _, length := range []int{0, mostAskedLength} {
				n, ok := impl.CountByLength(marks, 0, numbers, length)
				same(t, fmt.Sprint("CountByLength ", marks, numbers, length), n, ok, 0)
			}
		}
	}
}

// callDials calls all functions of chapter 7, tells what they return, and spoils the lists, with the room behind them.
func callDials(marks int, start int, code []int, other []int, steps []int, numbers int, slack int, length int) string {
	var told []any
	tell := func(results ...any) { told = append(told, results...) }
	tellNumber := func(number int, ok bool) { tell(number, ok) }
	tellIs := func(is bool, ok bool) { tell(is, ok) }
	tellList := func(list []int, ok bool) {
		tell(slices.Clone(list), ok)
		list = list[:cap(list)]
		for i := range list {
			list[i] = -99
		}
	}
	tellList(impl.StopsOf(marks, start, steps))
	tellNumber(impl.PassesOf(marks, start, length, numbers))
	tellList(impl.OpeningTurns(marks, start, code))
	tellNumber(impl.OpeningLength(marks, start, code))
	tellList(impl.CodeOfTurns(marks, start, steps))
	tellIs(impl.IsOpening(marks, start, code, steps))
	shortest, least, ok := impl.ShortestDial(marks, start, numbers)
	tell(least)
	tellList(shortest, ok)
	longest, greatest, ok := impl.LongestDial(marks, start, numbers)
	tell(greatest)
	tellList(longest, ok)
	tellNumber(impl.CountByLength(marks, start, numbers, length))
	tellList(impl.MergeTurns(steps))
	tellList(impl.OtherTurns(steps))
	tellList(impl.BackSpin(steps))
	tellIs(impl.AreClose(marks, slack, code, other))
	tellNumber(impl.CountClose(marks, slack, numbers))
	tellNumber(impl.CountTries(marks, slack, numbers))
	tellList(impl.TriesOf(marks, slack))
	return fmt.Sprint(told...)
}

// withRoom returns a list in the midst of a longer one, and this.
func withRoom(list []int) ([]int, []int) {
	room := slices.Concat([]int{-7}, list, []int{-8, -9, -10})
	return room[1 : 1+len(list)], room
}

func TestPromise11DialListsAreLeftAlone(t *testing.T) {
	d := &drawn{last: 67}
	for _, marks := range []int{2, 3, 10, 12, 40, 80, mostMarks} {
		for count := range mostStops + 2 {
			start := d.below(marks)
			code, other, steps := d.numbers(marks, count), d.numbers(marks, count), d.steps(90, count)
			if opening, ok := impl.OpeningTurns(marks, start, code); ok && count%2 == 0 {
				steps = opening
			}
			call := func(code []int, other []int, steps []int) string {
				return callDials(marks, start, code, other, steps, 1+count%3, count, 3*count)
			}
			what := fmt.Sprint(marks, start, code, other, steps)
			want := call(slices.Clip(slices.Clone(code)), slices.Clip(slices.Clone(other)), slices.Clip(slices.Clone(steps)))
			roomyCode, codeRoom := withRoom(code)
			roomyOther, otherRoom := withRoom(other)
			roomySteps, stepsRoom := withRoom(steps)
			before := slices.Concat(codeRoom, otherRoom, stepsRoom)
			same(t, "with room behind the lists "+what, call(roomyCode, roomyOther, roomySteps), true, want)
			same(t, "the same calls again "+what, call(roomyCode, roomyOther, roomySteps), true, want)
			sameList(t, "the lists "+what, slices.Concat(codeRoom, otherRoom, stepsRoom), true, before)
			same(t, "one list twice "+what, call(roomyCode, roomyCode, roomyCode), true, call(code, slices.Clone(code), slices.Clone(code)))
			sameList(t, "the lists "+what, slices.Concat(codeRoom, otherRoom, stepsRoom), true, before)
		}
	}
	same(t, "nil and empty lists", callDials(10, 0, []int{}, []int{}, []int{}, 1, 1, 1), true, callDials(10, 0, nil, nil, nil, 1, 1, 1))
}

func TestPromise11ListsThatAreNoStepsAreLeftAlone(t *testing.T) {
	for _, bad := range append(badSteps(), badNumbers(10)...) {
		list, room := withRoom([]int{1, bad, -1, bad})
		before := slices.Clone(room)
		callDials(10, 0, list, list, list, 3, 1, 10)
		sameList(t, "the list", room, true, before)
	}
	long, room := withRoom(slices.Repeat([]int{1}, 50))
	before := slices.Clone(room)
	callDials(10, 0, long, long, long, 3, 1, 10)
	sameList(t, "a long list", room, true, before)
}

func TestPromise11NothingPanicsWithDials(t *testing.T) {
	marks := append(badMarks(), 2, 3, 10, 12, 13, 99, 100)
	numbers := append(badSteps(), -1000, -100, -1, 1, 2, 3, 4, 9, 10, 11, 12, 99, 100, 1000, 9999, 10000, 10001)
	for i, many := range marks {
		for k, number := range numbers {
			at := func(step int) int { return numbers[(i+k*step+step)%len(numbers)] }
			list := []int{number, at(3), at(5)}
			for _, start := range []int{0, 1, number, at(7)} {
				callDials(many, start, list, list[:1], list, at(2), at(11), at(13))
				callDials(many, start, []int{1, 0}, list[1:], list[2:], number, number, number)
				callDials(many, start, list[:1], []int{0}, list[:2], 1+k%3, k, at(4))
			}
		}
	}
}

func TestPromise11DialsAtTheSameTime(t *testing.T) {
	code, other, steps := []int{3, 8, 1}, []int{4, 7, 1}, []int{23, -15, 3}
	call := func() string { return callDials(10, 0, code, other, steps, 3, 1, 41) }
	want := call()
	told := make([]string, 16)
	var callers sync.WaitGroup
	for i := range told {
		callers.Go(func() {
			for range 20 {
				told[i] = call()
			}
		})
	}
	callers.Wait()
	for _, s := range told {
		same(t, "calls at the same time", s, true, want)
	}
}
