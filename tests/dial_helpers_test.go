package tests

import (
	"fmt"
	"slices"
	"testing"

	"loop.example/g01304/impl"
)

// The helpers turn dials mark by mark and look at each number that is read: they work out no remainders.

const (
	mostMarks         = 100
	mostSearchedMarks = 12
	mostStops         = 12
	mostSpin          = 1000
	mostAskedNumbers  = 3
	mostAskedLength   = 10000
)

func clicked(marks int, read int, by int) int {
	switch read += by; {
	case read == marks:
		return 0
	case read < 0:
		return marks - 1
	}
	return read
}

func signOf(step int) int {
	if step > 0 {
		return 1
	}
	return -1
}

// readBehind returns what is read behind each single mark of a step.
func readBehind(marks int, read int, step int) []int {
	var numbers []int
	for left := step; left != 0; left -= signOf(step) {
		read = clicked(marks, read, signOf(step))
		numbers = append(numbers, read)
	}
	return numbers
}

func passesIn(marks int, read int, step int, number int) int {
	passes := 0
	for _, each := range readBehind(marks, read, step) {
		if each == number {
			passes++
		}
	}
	return passes
}

func stopsIn(marks int, start int, steps []int) []int {
	var stops []int
	read := start
	for _, step := range steps {
		numbers := readBehind(marks, read, step)
		read = numbers[len(numbers)-1]
		stops = append(stops, read)
	}
	return stops
}

// openingIn turns on until each number has passed as often as it should, however great the steps become.
func openingIn(marks int, start int, code []int) []int {
	var steps []int
	read, by := start, 1
	for i, number := range code {
		step := 0
		for passes := 0; passes < len(code)-i; {
			read = clicked(marks, read, by)
			step += by
			if read == number {
				passes++
			}
		}
		steps = append(steps, step)
		by = -by
	}
	return steps
}

func sizesOf(steps []int) []int {
	var sizes []int
	for _, step := range steps {
		sizes = append(sizes, step*signOf(step))
	}
	return sizes
}

func sumIn(numbers []int) int {
	sum := 0
	for _, number := range numbers {
		sum += number
	}
	return sum
}

// numberLists returns all lists of so many of some numbers, in the order that these have.
func numberLists(numbers []int, length int) [][]int {
	lists := [][]int{nil}
	for range length {
		var longer [][]int
		for _, list := range lists {
			for _, number := range numbers {
				longer = append(longer, slices.Concat(list, []int{number}))
			}
		}
		lists = longer
	}
	return lists
}

func numbersUpTo(limit int) []int {
	var numbers []int
	for number := range limit {
		numbers = append(numbers, number)
	}
	return numbers
}

func dialCodesOf(marks int, numbers int) [][]int {
	return numberLists(numbersUpTo(marks), numbers)
}

// mergedIn adds the first two steps of the same sign beside each other, again and again, until there are none.
func mergedIn(steps []int) []int {
	for i := range len(steps) - 1 {
		if (steps[i] > 0) == (steps[i+1] > 0) {
			return mergedIn(slices.Concat(steps[:i], []int{steps[i] + steps[i+1]}, steps[i+2:]))
		}
	}
	return steps
}

// isNear looks at so many marks on both sides.
func isNear(marks int, slack int, a int, b int) bool {
	up, down := a, a
	near := a == b
	for range slack {
		up, down = clicked(marks, up, 1), clicked(marks, down, -1)
		near = near || up == b || down == b
	}
	return near
}

func areNear(marks int, slack int, a []int, b []int) bool {
	for i := range a {
		if !isNear(marks, slack, a[i], b[i]) {
			return false
		}
	}
	return true
}

func isMissed(marks int, slack int, tries []int) bool {
	for number := range marks {
		if !slices.ContainsFunc(tries, func(try int) bool { return isNear(marks, slack, try, number) }) {
			return true
		}
	}
	return false
}

func triesIn(marks int, slack int) []int {
	tries := []int{min(slack, marks-1)}
	for isMissed(marks, slack, tries) {
		tries = append(tries, min(tries[len(tries)-1]+slack+slack+1, marks-1))
	}
	return tries
}

func (d *drawn) numbers(marks int, count int) []int {
	var numbers []int
	for range count {
		numbers = append(numbers, d.below(marks))
	}
	return numbers
}

func (d *drawn) steps(most int, count int) []int {
	var steps []int
	for range count {
		size := 1 + d.below(most)
		steps = append(steps, size*(1-2*d.below(2)))
	}
	return steps
}

// sameOpening checks all that is told of the opening turns of a code. These do not exist where a step would be too great.
func sameOpening(t *testing.T, marks int, start int, code []int) {
	t.Helper()
	what := fmt.Sprint(marks, start, code)
	want := openingIn(marks, start, code)
	steps, ok := impl.OpeningTurns(marks, start, code)
	length, okLength := impl.OpeningLength(marks, start, code)
	if slices.Max(sizesOf(want)) > mostSpin {
		failsList(t, "OpeningTurns "+what, steps, ok)
		fails(t, "OpeningLength "+what, length, okLength)
		return
	}
	sameList(t, "OpeningTurns "+what, steps, ok, want)
	same(t, "OpeningLength "+what, length, okLength, sumIn(sizesOf(want)))
	stops, ok := impl.StopsOf(marks, start, want)
	sameList(t, "StopsOf the opening turns of "+what, stops, ok, code)
	back, ok := impl.CodeOfTurns(marks, start, want)
	sameList(t, "CodeOfTurns of those of "+what, back, ok, code)
	is, ok := impl.IsOpening(marks, start, code, want)
	same(t, "IsOpening "+what, is, ok, true)
}

// failsWithDial calls all functions that require a start, with all else as it should be, and expects each one to fail.
func failsWithDial(t *testing.T, marks int, start int) {
	t.Helper()
	what := fmt.Sprint(marks, start)
	for _, steps := range [][]int{nil, {1}, {3, -1}} {
		stops, ok := impl.StopsOf(marks, start, steps)
		failsList(t, "StopsOf "+what, stops, ok)
	}
	for _, step := range []int{1, -1} {
		n, ok := impl.PassesOf(marks, start, step, 0)
		fails(t, "PassesOf "+what, n, ok)
	}
	failsWithDialCode(t, marks, start, []int{0})
	failsWithDialCode(t, marks, start, []int{1, 0})
	failsAsTurns(t, marks, start, []int{1})
	for numbers := 1; numbers <= mostAskedNumbers; numbers++ {
		failsWithNumbers(t, marks, start, numbers)
	}
}

// failsWithDialCode calls all functions that require a code on a dial, and expects each one to fail.
func failsWithDialCode(t *testing.T, marks int, start int, code []int) {
	t.Helper()
	what := fmt.Sprint(marks, start, code)
	steps, ok := impl.OpeningTurns(marks, start, code)
	failsList(t, "OpeningTurns "+what, steps, ok)
	length, ok := impl.OpeningLength(marks, start, code)
	fails(t, "OpeningLength "+what, length, ok)
	for _, steps := range [][]int{nil, {1}, {3, -1}} {
		is, ok := impl.IsOpening(marks, start, code, steps)
		fails(t, "IsOpening "+what, is, ok)
	}
}

// failsAsTurns expects steps to be the opening turns of no code.
func failsAsTurns(t *testing.T, marks int, start int, steps []int) {
	t.Helper()
	code, ok := impl.CodeOfTurns(marks, start, steps)
	failsList(t, fmt.Sprint("CodeOfTurns ", marks, start, steps), code, ok)
}

// failsWithSteps calls all functions that require steps, and expects each one to fail.
func failsWithSteps(t *testing.T, what string, steps []int) {
	t.Helper()
	stops, ok := impl.StopsOf(10, 0, steps)
	failsList(t, "StopsOf "+what, stops, ok)
	code, ok := impl.CodeOfTurns(10, 0, steps)
	failsList(t, "CodeOfTurns "+what, code, ok)
	is, ok := impl.IsOpening(10, 0, []int{3, 8, 1}, steps)
	fails(t, "IsOpening "+what, is, ok)
	merged, ok := impl.MergeTurns(steps)
	failsList(t, "MergeTurns "+what, merged, ok)
	others, ok := impl.OtherTurns(steps)
	failsList(t, "OtherTurns "+what, others, ok)
	back, ok := impl.BackSpin(steps)
	failsList(t, "BackSpin "+what, back, ok)
}

// failsWithNumbers calls all functions that search codes of so many numbers, and expects each one to fail.
func failsWithNumbers(t *testing.T, marks int, start int, numbers int) {
	t.Helper()
	what := fmt.Sprint(marks, start, numbers)
	code, length, ok := impl.ShortestDial(marks, start, numbers)
	failsList(t, "ShortestDial "+what, code, ok)
	fails(t, "ShortestDial "+what, length, ok)
	code, length, ok = impl.LongestDial(marks, start, numbers)
	failsList(t, "LongestDial "+what, code, ok)
	fails(t, "LongestDial "+what, length, ok)
	for _, length := range []int{0, 1, marks, mostAskedLength} {
		n, ok := impl.CountByLength(marks, start, numbers, length)
		fails(t, "CountByLength "+what, n, ok)
	}
}

// failsWithSlack calls all functions that require a slack, and expects each one to fail.
func failsWithSlack(t *testing.T, marks int, slack int) {
	t.Helper()
	what := fmt.Sprint(marks, slack)
	is, ok := impl.AreClose(marks, slack, []int{0}, []int{0})
	fails(t, "AreClose "+what, is, ok)
	is, ok = impl.AreClose(marks, slack, []int{0, 1}, []int{1, 1})
	fails(t, "AreClose "+what, is, ok)
	tries, ok := impl.TriesOf(marks, slack)
	failsList(t, "TriesOf "+what, tries, ok)
	for numbers := 1; numbers <= mostAskedNumbers; numbers++ {
		failsCloseCounts(t, marks, slack, numbers)
	}
}

func failsCloseCounts(t *testing.T, marks int, slack int, numbers int) {
	t.Helper()
	what := fmt.Sprint(marks, slack, numbers)
	n, ok := impl.CountClose(marks, slack, numbers)
	fails(t, "CountClose "+what, n, ok)
	n, ok = impl.CountTries(marks, slack, numbers)
	fails(t, "CountTries "+what, n, ok)
}
