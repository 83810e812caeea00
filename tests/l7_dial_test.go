package tests

import (
	"fmt"
	"slices"
	"testing"

	"loop.example/g01304/impl"
)

// Promise 7: opening turns stop at the numbers of their code when these pass as often as told.

func TestPromise7Example(t *testing.T) {
	steps, ok := impl.OpeningTurns(10, 0, []int{3, 8, 1})
	sameList(t, "OpeningTurns", steps, ok, []int{23, -15, 3})
	n, ok := impl.OpeningLength(10, 0, []int{3, 8, 1})
	same(t, "OpeningLength", n, ok, 41)
	stops, ok := impl.StopsOf(10, 0, []int{23, -15, 3})
	sameList(t, "StopsOf", stops, ok, []int{3, 8, 1})
	code, ok := impl.CodeOfTurns(10, 0, []int{23, -15, 3})
	sameList(t, "CodeOfTurns", code, ok, []int{3, 8, 1})
	is, ok := impl.IsOpening(10, 0, []int{3, 8, 1}, []int{23, -15, 3})
	same(t, "IsOpening", is, ok, true)
	n, ok = impl.PassesOf(10, 0, 23, 3)
	same(t, "PassesOf 3", n, ok, 3)
	n, ok = impl.PassesOf(10, 0, 23, 4)
	same(t, "PassesOf 4", n, ok, 2)
	n, ok = impl.PassesOf(10, 3, -15, 8)
	same(t, "PassesOf 8", n, ok, 2)
	n, ok = impl.CountClose(10, 1, 3)
	same(t, "CountClose", n, ok, 27)
	tries, ok := impl.TriesOf(10, 1)
	sameList(t, "TriesOf", tries, ok, []int{1, 4, 7, 9})
	n, ok = impl.CountTries(10, 1, 3)
	same(t, "CountTries", n, ok, 64)
}

func TestPromise7Limits(t *testing.T) {
	same(t, "MaxMarks", impl.MaxMarks, true, 100)
	same(t, "MaxStops", impl.MaxStops, true, 12)
	same(t, "MaxSpin", impl.MaxSpin, true, 1000)
}

func TestPromise7StopsOfOneStep(t *testing.T) {
	for marks := 2; marks <= mostMarks; marks++ {
		for _, start := range []int{0, 1, marks / 2, marks - 1} {
			up, down := readBehind(marks, start, mostSpin), readBehind(marks, start, -mostSpin)
			for i := range mostSpin {
				stops, ok := impl.StopsOf(marks, start, []int{i + 1})
				sameList(t, fmt.Sprint("StopsOf ", marks, start, i+1), stops, ok, up[i:i+1])
				stops, ok = impl.StopsOf(marks, start, []int{-i - 1})
				sameList(t, fmt.Sprint("StopsOf ", marks, start, -i-1), stops, ok, down[i:i+1])
			}
		}
	}
}

// Steps of any sign, one after the other, from no steps up to as many as there may be.
func TestPromise7StopsOfSteps(t *testing.T) {
	d := &drawn{last: 7}
	for marks := 2; marks <= mostMarks; marks++ {
		for count := range mostStops + 1 {
			start := d.below(marks)
			for _, most := range []int{1, marks, 3 * marks, mostSpin} {
				steps := d.steps(most, count)
				stops, ok := impl.StopsOf(marks, start, steps)
				sameList(t, fmt.Sprint("StopsOf ", marks, start, steps), stops, ok, stopsIn(marks, start, steps))
			}
		}
	}
	stops, ok := impl.StopsOf(7, 6, slices.Repeat([]int{mostSpin, -mostSpin}, mostStops/2))
	sameList(t, "StopsOf the greatest steps", stops, ok, slices.Repeat([]int{5, 6}, mostStops/2))
}

func TestPromise7Passes(t *testing.T) {
	for marks := 2; marks <= mostSearchedMarks; marks++ {
		for start := range marks {
			for size := 1; size <= 3*marks+1; size++ {
				for _, step := range []int{size, -size, mostSpin + 1 - size, size - mostSpin - 1} {
					for number := range marks {
						n, ok := impl.PassesOf(marks, start, step, number)
						same(t, fmt.Sprint("PassesOf ", marks, start, step, number), n, ok, passesIn(marks, start, step, number))
					}
				}
			}
		}
	}
	d := &drawn{last: 17}
	for marks := mostSearchedMarks; marks <= mostMarks; marks++ {
		for range 50 {
			start, number, step := d.below(marks), d.below(marks), d.steps(mostSpin, 1)[0]
			n, ok := impl.PassesOf(marks, start, step, number)
			same(t, fmt.Sprint("PassesOf ", marks, start, step, number), n, ok, passesIn(marks, start, step, number))
		}
	}
}

// The start does not count, and the last mark does.
func TestPromise7PassesOfTheStart(t *testing.T) {
	cases := []struct{ marks, start, step, number, want int }{
		{10, 4, 9, 4, 0}, {10, 4, 10, 4, 1}, {10, 4, 19, 4, 1}, {10, 4, 20, 4, 2}, {10, 4, -9, 4, 0}, {10, 4, -10, 4, 1}, {10, 4, -20, 4, 2},
		{10, 4, 1, 5, 1}, {10, 4, -1, 3, 1}, {10, 4, 1, 3, 0}, {10, 4, -1, 5, 0}, {10, 9, 1, 0, 1}, {10, 0, -1, 9, 1},
		{2, 0, 1, 1, 1}, {2, 0, 1, 0, 0}, {2, 1, -1, 0, 1}, {2, 1, -2, 1, 1}, {2, 0, 1000, 0, 500}, {2, 0, -999, 1, 500}, {2, 0, -999, 0, 499},
		{100, 99, 1000, 99, 10}, {100, 99, 999, 99, 9}, {100, 0, -1000, 0, 10}, {100, 0, -999, 1, 10},
	}
	for _, c := range cases {
		n, ok := impl.PassesOf(c.marks, c.start, c.step, c.number)
		same(t, fmt.Sprint("PassesOf ", c), n, ok, c.want)
	}
}

func TestPromise7OpeningTurnsOfAllShortCodes(t *testing.T) {
	for marks, most := range map[int]int{2: 9, 3: 6, 4: 4, 5: 4, 6: 3, 7: 3, 10: 2, 12: 2, 31: 1, mostMarks: 1} {
		for numbers := 1; numbers <= most; numbers++ {
			for _, code := range dialCodesOf(marks, numbers) {
				for start := range marks {
					sameOpening(t, marks, start, code)
				}
			}
		}
	}
}

func TestPromise7OpeningTurnsOfLongCodes(t *testing.T) {
	d := &drawn{last: 27}
	for marks := 2; marks <= mostMarks; marks++ {
		for numbers := 1; numbers <= mostStops; numbers++ {
			for range 4 {
				sameOpening(t, marks, d.below(marks), d.numbers(marks, numbers))
			}
		}
	}
}

// A number passes as often as told just behind the last mark of its step, and once less before it.
func TestPromise7NumbersPassAsOftenAsTold(t *testing.T) {
	d := &drawn{last: 37}
	for marks := 2; marks <= 80; marks++ {
		for numbers := 1; numbers <= mostStops; numbers++ {
			read, code := d.below(marks), d.numbers(marks, numbers)
			what := fmt.Sprint(marks, read, code)
			steps, ok := impl.OpeningTurns(marks, read, code)
			same(t, "OpeningTurns "+what, len(steps), ok, numbers)
			for i, step := range steps {
				same(t, "sign "+what, step > 0, ok, i%2 == 0)
				n, ok := impl.PassesOf(marks, read, step, code[i])
				same(t, "PassesOf "+what, n, ok, numbers-i)
				if shorter := step - signOf(step); shorter != 0 {
					n, ok = impl.PassesOf(marks, read, shorter, code[i])
					same(t, "PassesOf one mark less "+what, n, ok, numbers-i-1)
				}
				read = code[i]
			}
		}
	}
}

func TestPromise7NumbersThatAreRead(t *testing.T) {
	cases := []struct {
		marks, start int
		code, want   []int
	}{
		{10, 0, []int{0}, []int{10}}, {10, 7, []int{7}, []int{10}}, {2, 0, []int{0}, []int{2}}, {2, 0, []int{1}, []int{1}}, {100, 99, []int{99}, []int{100}},
		{10, 3, []int{3, 3}, []int{20, -10}}, {10, 3, []int{3, 3, 3}, []int{30, -20, 10}}, {10, 0, []int{5, 5}, []int{15, -10}},
		{10, 0, []int{5, 5, 6}, []int{25, -20, 1}}, {10, 0, []int{1, 2, 2}, []int{21, -19, 10}}, {10, 9, []int{0, 9}, []int{11, -1}}, {10, 0, []int{9, 0}, []int{19, -9}},
		{2, 0, []int{0, 0}, []int{4, -2}}, {2, 0, []int{0, 1}, []int{4, -1}}, {2, 0, []int{1, 0}, []int{3, -1}}, {2, 0, []int{1, 1}, []int{3, -2}},
		{2, 1, []int{0, 1, 0}, []int{5, -3, 1}}, {2, 1, []int{1, 1, 1}, []int{6, -4, 2}}, {100, 0, []int{0, 0}, []int{200, -100}},
	}
	for _, c := range cases {
		steps, ok := impl.OpeningTurns(c.marks, c.start, c.code)
		sameList(t, fmt.Sprint("OpeningTurns ", c), steps, ok, c.want)
		sameOpening(t, c.marks, c.start, c.code)
	}
	for marks := 2; marks <= mostMarks; marks++ {
		for numbers := 1; numbers <= mostStops; numbers++ {
			for _, number := range []int{0, marks / 3, marks - 1} {
				sameOpening(t, marks, number, slices.Repeat([]int{number}, numbers))
			}
		}
	}
}

// The first step is the greatest one: it may be MaxSpin, and not one mark more.
func TestPromise7StepsThatBecomeTooGreat(t *testing.T) {
	for marks := 70; marks <= mostMarks; marks++ {
		for numbers := 9; numbers <= mostStops; numbers++ {
			for first := range marks {
				code := append([]int{first}, slices.Repeat([]int{0}, numbers-1)...)
				sameOpening(t, marks, 0, code)
			}
		}
	}
	steps, ok := impl.OpeningTurns(100, 42, slices.Repeat([]int{42}, 10))
	sameList(t, "OpeningTurns", steps, ok, []int{1000, -900, 800, -700, 600, -500, 400, -300, 200, -100})
	n, ok := impl.OpeningLength(100, 42, slices.Repeat([]int{42}, 10))
	same(t, "OpeningLength", n, ok, 5500)
	steps, ok = impl.OpeningTurns(90, 0, append([]int{10}, slices.Repeat([]int{9}, 11)...))
	same(t, "OpeningTurns", steps[0], ok, mostSpin)
	failsOpening(t, 90, 0, append([]int{11}, slices.Repeat([]int{9}, 11)...))
	failsOpening(t, 91, 0, append([]int{1}, slices.Repeat([]int{0}, 11)...))
	failsOpening(t, 100, 99, append([]int{0}, slices.Repeat([]int{99}, 10)...))
}

// failsOpening expects a code to have no opening turns: no steps are those, and this is told.
func failsOpening(t *testing.T, marks int, start int, code []int) {
	t.Helper()
	what := fmt.Sprint(marks, start, code)
	steps, ok := impl.OpeningTurns(marks, start, code)
	failsList(t, "OpeningTurns "+what, steps, ok)
	n, ok := impl.OpeningLength(marks, start, code)
	fails(t, "OpeningLength "+what, n, ok)
	nearly := openingIn(marks, start, code)
	nearly[0] = mostSpin
	for _, steps := range [][]int{nil, {1}, nearly, nearly[1:]} {
		is, ok := impl.IsOpening(marks, start, code, steps)
		same(t, "IsOpening "+what, is, ok, false)
	}
}

// All steps up to some size, in lists of up to three: just those that are the opening turns of some code have one.
func TestPromise7CodesOfAllTurns(t *testing.T) {
	for marks := 2; marks <= 4; marks++ {
		for numbers := 1; numbers <= 3; numbers++ {
			var sizes []int
			for step := -3*marks - 1; step <= 3*marks+1; step++ {
				if step != 0 {
					sizes = append(sizes, step)
				}
			}
			for start := range marks {
				codes := map[string][]int{}
				for _, code := range dialCodesOf(marks, numbers) {
					codes[fmt.Sprint(openingIn(marks, start, code))] = code
				}
				for _, steps := range numberLists(sizes, numbers) {
					want, known := codes[fmt.Sprint(steps)]
					if !known {
						failsAsTurns(t, marks, start, steps)
						continue
					}
					code, ok := impl.CodeOfTurns(marks, start, steps)
					sameList(t, fmt.Sprint("CodeOfTurns ", marks, start, steps), code, ok, want)
				}
			}
		}
	}
}

func TestPromise7TurnsOfNoCode(t *testing.T) {
	for _, steps := range [][]int{
		nil, {}, {-3}, {11}, {1000}, {-1000}, {23, -15}, {23, -15, 3, -1}, {23, 15, 3}, {-23, 15, -3}, {23, -15, -3}, {23, -15, 13}, {23, -25, 3}, {23, -5, 3}, {13, -15, 3}, {33, -15, 3},
		{20, -15, 3}, {31, -15, 3}, {23, -10, 3}, {23, -21, 3}, {23, -15, 11}, {-15, 3}, {15, 3}, {10, -10}, {20, -11}, {21, -11}, {3, -15, 23},
	} {
		failsAsTurns(t, 10, 0, steps)
	}
	// Where a number may first pass behind all marks, these are opening turns still.
	for _, steps := range [][]int{{1}, {10}, {20, -10}, {11, -1}, {30, -20, 10}, {21, -11, 1}} {
		code, ok := impl.CodeOfTurns(10, 0, steps)
		sameList(t, fmt.Sprint("CodeOfTurns ", steps), code, ok, stopsIn(10, 0, steps))
	}
}

func TestPromise7IsOpening(t *testing.T) {
	for marks := 2; marks <= 4; marks++ {
		for numbers := 1; numbers <= 3; numbers++ {
			codes := dialCodesOf(marks, numbers)
			for start := range marks {
				for _, code := range codes {
					for _, other := range codes {
						steps := openingIn(marks, start, other)
						is, ok := impl.IsOpening(marks, start, code, steps)
						same(t, fmt.Sprint("IsOpening ", marks, start, code, steps), is, ok, slices.Equal(code, other))
					}
				}
			}
		}
	}
	code := []int{3, 8, 1}
	for _, steps := range [][]int{
		nil, {}, {23}, {23, -15}, {23, -15, 3, -10}, {33, -15, 3}, {13, -15, 3}, {3, -5, 3}, {23, 5, 3}, {-7, -15, 3}, {-23, 15, -3}, {23, -15, 13}, {3, -15, 23},
		{23, -15, 4}, {24, -16, 3}, {1000, -1000, 1000}, slices.Repeat([]int{1}, mostStops),
	} {
		is, ok := impl.IsOpening(10, 0, code, steps)
		same(t, fmt.Sprint("IsOpening ", steps), is, ok, false)
	}
	is, ok := impl.IsOpening(10, 1, code, []int{23, -15, 3})
	same(t, "IsOpening from another start", is, ok, false)
}

func TestPromise7ShortestAndLongestDials(t *testing.T) {
	for marks := 2; marks <= mostSearchedMarks; marks++ {
		for start := range marks {
			for numbers := 1; numbers <= mostAskedNumbers; numbers++ {
				what := fmt.Sprint(marks, start, numbers)
				var shortest, longest []int
				least, greatest := mostAskedLength, 0
				for _, code := range dialCodesOf(marks, numbers) {
					length := sumIn(sizesOf(openingIn(marks, start, code)))
					if length < least {
						shortest, least = code, length
					}
					if length > greatest {
						longest, greatest = code, length
					}
				}
				code, length, ok := impl.ShortestDial(marks, start, numbers)
				sameList(t, "ShortestDial "+what, code, ok, shortest)
				same(t, "ShortestDial "+what, length, ok, least)
				code, length, ok = impl.LongestDial(marks, start, numbers)
				sameList(t, "LongestDial "+what, code, ok, longest)
				same(t, "LongestDial "+what, length, ok, greatest)
			}
		}
	}
	code, length, ok := impl.ShortestDial(12, 11, 3)
	sameList(t, "ShortestDial", code, ok, []int{0, 11, 0})
	same(t, "ShortestDial", length, ok, 39)
	code, length, ok = impl.LongestDial(12, 11, 3)
	sameList(t, "LongestDial", code, ok, []int{11, 11, 11})
	same(t, "LongestDial", length, ok, 72)
}

func TestPromise7CountsByLength(t *testing.T) {
	for marks := 2; marks <= mostSearchedMarks; marks++ {
		for _, start := range []int{0, marks / 2, marks - 1} {
			for numbers := 1; numbers <= mostAskedNumbers; numbers++ {
				want := map[int]int{}
				for _, code := range dialCodesOf(marks, numbers) {
					want[sumIn(sizesOf(openingIn(marks, start, code)))]++
				}
				longest := 2 * numbers * numbers * marks
				for _, length := range append(numbersUpTo(longest), mostAskedLength-1, mostAskedLength) {
					n, ok := impl.CountByLength(marks, start, numbers, length)
					same(t, fmt.Sprint("CountByLength ", marks, start, numbers, length), n, ok, want[length])
				}
			}
		}
	}
	n, ok := impl.CountByLength(10, 0, 3, 41)
	same(t, "CountByLength of the example", n, ok, 45)
}

func TestPromise7MergedTurns(t *testing.T) {
	cases := []struct{ steps, want []int }{
		{nil, nil}, {[]int{5}, []int{5}}, {[]int{-5}, []int{-5}}, {[]int{3, 4}, []int{7}}, {[]int{-3, -4}, []int{-7}}, {[]int{3, -4}, []int{3, -4}},
		{[]int{3, 4, -2}, []int{7, -2}}, {[]int{3, -2, 4}, []int{3, -2, 4}}, {[]int{1, 2, 3, -4, -5, 6}, []int{6, -9, 6}}, {[]int{-1, 2, 3}, []int{-1, 5}},
		// The sum of these is 0, but steps of other signs are not added.
		{[]int{5, -5}, []int{5, -5}}, {[]int{-5, 5}, []int{-5, 5}}, {[]int{2, 3, -5}, []int{5, -5}}, {[]int{5, -2, -3}, []int{5, -5}}, {[]int{1, -1, 1, -1}, []int{1, -1, 1, -1}},
		{[]int{4, 1, -2, -3, 5, -5}, []int{5, -5, 5, -5}}, {[]int{7, 3, -3, -7}, []int{10, -10}},
		{[]int{500, 500}, []int{1000}}, {[]int{-999, -1}, []int{-1000}}, {[]int{1000, -1000, 1000}, []int{1000, -1000, 1000}}, {[]int{400, 300, 300, -1, -999}, []int{1000, -1000}},
		{slices.Repeat([]int{1}, mostStops), []int{mostStops}}, {slices.Repeat([]int{1000, -1000}, 6), slices.Repeat([]int{1000, -1000}, 6)},
	}
	for _, c := range cases {
		merged, ok := impl.MergeTurns(c.steps)
		sameList(t, fmt.Sprint("MergeTurns ", c.steps), merged, ok, c.want)
	}
	for _, steps := range [][]int{
		{1000, 1}, {1, 1000}, {-1000, -1}, {-1, -1000}, {501, 500}, {-500, -501}, {400, 300, 301}, {1000, 1000}, {-1000, -1000}, {600, 600, -200}, {-5, 600, 600}, {5, -600, -600, 400},
		slices.Repeat([]int{1000}, mostStops), slices.Repeat([]int{-84}, mostStops),
	} {
		merged, ok := impl.MergeTurns(steps)
		failsList(t, fmt.Sprint("MergeTurns ", steps), merged, ok)
	}
}

func sameTurned(t *testing.T, steps []int) {
	t.Helper()
	what := fmt.Sprint(steps)
	merged, ok := impl.MergeTurns(steps)
	if want := mergedIn(steps); len(want) > 0 && slices.Max(sizesOf(want)) > mostSpin {
		failsList(t, "MergeTurns "+what, merged, ok)
	} else {
		sameList(t, "MergeTurns "+what, merged, ok, want)
	}
	var wantOthers, wantBack []int
	for i := range steps {
		wantOthers = append(wantOthers, 0-steps[i])
		wantBack = append(wantBack, 0-steps[len(steps)-1-i])
	}
	others, ok := impl.OtherTurns(steps)
	sameList(t, "OtherTurns "+what, others, ok, wantOthers)
	back, ok := impl.BackSpin(steps)
	sameList(t, "BackSpin "+what, back, ok, wantBack)
}

func TestPromise7TurnedSteps(t *testing.T) {
	for length := range 5 {
		for _, steps := range numberLists([]int{-1000, -500, -1, 1, 2, 999}, length) {
			sameTurned(t, steps)
		}
	}
	d := &drawn{last: 47}
	for count := range mostStops + 1 {
		for _, most := range []int{1, 100, 400, mostSpin} {
			for range 50 {
				sameTurned(t, d.steps(most, count))
			}
		}
	}
}

func lastStop(stops []int, start int) int {
	if len(stops) == 0 {
		return start
	}
	return stops[len(stops)-1]
}

// Behind steps and those that lead back the start is read, and merged steps lead to the same number.
func TestPromise7StepsThatLeadBack(t *testing.T) {
	d := &drawn{last: 57}
	for marks := 2; marks <= mostMarks; marks++ {
		for count := range mostStops + 1 {
			start, steps := d.below(marks), d.steps(80, count)
			what := fmt.Sprint(marks, start, steps)
			stops, _ := impl.StopsOf(marks, start, steps)
			end := lastStop(stops, start)
			back, _ := impl.BackSpin(steps)
			stops, ok := impl.StopsOf(marks, end, back)
			same(t, "back "+what, lastStop(stops, end), ok, start)
			merged, _ := impl.MergeTurns(steps)
			stops, ok = impl.StopsOf(marks, start, merged)
			same(t, "merged "+what, lastStop(stops, start), ok, end)
			others, _ := impl.OtherTurns(steps)
			stops, ok = impl.StopsOf(marks, end, others)
			same(t, "other turns "+what, lastStop(stops, end), ok, start)
		}
	}
}

func TestPromise7CloseNumbers(t *testing.T) {
	for _, marks := range []int{2, 3, 4, 5, 9, 10, 11, 99, mostMarks} {
		for _, slack := range []int{0, 1, 2, 4, 5, marks/2 - 1, marks / 2, marks - 1, marks, mostMarks} {
			if slack > mostMarks {
				continue
			}
			for a := range marks {
				for b := range marks {
					is, ok := impl.AreClose(marks, slack, []int{a}, []int{b})
					same(t, fmt.Sprint("AreClose ", marks, slack, a, b), is, ok, isNear(marks, slack, a, b))
				}
			}
		}
	}
}

// Each number has to be near: one that is not is enough, wherever it is.
func TestPromise7CloseCodes(t *testing.T) {
	for marks := 2; marks <= 6; marks++ {
		for slack := range marks {
			for numbers := 1; numbers <= 2; numbers++ {
				codes := dialCodesOf(marks, numbers)
				for _, a := range codes {
					for _, b := range codes {
						is, ok := impl.AreClose(marks, slack, a, b)
						same(t, fmt.Sprint("AreClose ", marks, slack, a, b), is, ok, areNear(marks, slack, a, b))
					}
				}
			}
		}
	}
	for length := 1; length <= mostStops; length++ {
		code := slices.Repeat([]int{99}, length)
		for place := range length {
			for number, want := range map[int]bool{99: true, 1: true, 97: true, 2: false, 96: false, 49: false} {
				other := slices.Repeat([]int{0}, length)
				other[place] = number
				is, ok := impl.AreClose(100, 2, code, other)
				same(t, fmt.Sprint("AreClose ", code, other), is, ok, want)
				is, ok = impl.AreClose(100, 2, other, code)
				same(t, fmt.Sprint("AreClose ", other, code), is, ok, want)
			}
		}
	}
}

func TestPromise7CountsOfCloseCodes(t *testing.T) {
	for marks := 2; marks <= mostMarks; marks++ {
		for slack := range mostMarks + 1 {
			near := 0
			for number := range marks {
				if isNear(marks, slack, marks/3, number) {
					near++
				}
			}
			for numbers, want := range []int{1, near, near * near, near * near * near} {
				if numbers > 0 {
					n, ok := impl.CountClose(marks, slack, numbers)
					same(t, fmt.Sprint("CountClose ", marks, slack, numbers), n, ok, want)
				}
			}
		}
	}
	codes := dialCodesOf(7, 3)
	for slack := range 8 {
		met := 0
		for _, code := range codes {
			if is, _ := impl.AreClose(7, slack, code, []int{0, 3, 6}); is {
				met++
			}
		}
		n, ok := impl.CountClose(7, slack, 3)
		same(t, fmt.Sprint("CountClose ", slack), n, ok, met)
	}
}

// These are as few as can be, as no number has more near to it than those that twice the slack and 1 tell.
func TestPromise7Tries(t *testing.T) {
	for marks := 2; marks <= mostMarks; marks++ {
		for slack := range mostMarks + 1 {
			what := fmt.Sprint(marks, slack)
			want := triesIn(marks, slack)
			tries, ok := impl.TriesOf(marks, slack)
			sameList(t, "TriesOf "+what, tries, ok, want)
			same(t, "missed "+what, isMissed(marks, slack, tries), ok, false)
			few := len(tries)
			same(t, "too few "+what, (few-1)*(slack+slack+1) < marks, ok, true)
			for numbers, count := range []int{1, few, few * few, few * few * few} {
				if numbers > 0 {
					n, ok := impl.CountTries(marks, slack, numbers)
					same(t, fmt.Sprint("CountTries ", what, numbers), n, ok, count)
				}
			}
		}
	}
}

func TestPromise7TriesOfSomeDials(t *testing.T) {
	cases := []struct {
		marks, slack int
		want         []int
	}{
		{10, 0, numbersUpTo(10)}, {100, 0, numbersUpTo(100)}, {2, 0, []int{0, 1}}, {2, 1, []int{1}}, {2, 100, []int{1}}, {3, 1, []int{1}}, {4, 1, []int{1, 3}}, {5, 1, []int{1, 4}},
		{6, 1, []int{1, 4}}, {7, 1, []int{1, 4, 6}}, {8, 1, []int{1, 4, 7}}, {10, 4, []int{4, 9}}, {9, 4, []int{4}}, {10, 5, []int{5}}, {10, 9, []int{9}}, {10, 10, []int{9}}, {10, 100, []int{9}},
		{11, 5, []int{5}}, {12, 5, []int{5, 11}}, {100, 49, []int{49, 99}}, {100, 50, []int{50}}, {100, 99, []int{99}}, {100, 100, []int{99}}, {100, 12, []int{12, 37, 62, 87}},
	}
	for _, c := range cases {
		tries, ok := impl.TriesOf(c.marks, c.slack)
		sameList(t, fmt.Sprint("TriesOf ", c.marks, c.slack), tries, ok, c.want)
	}
}

// Each code is close to one that has numbers of the tries alone.
func TestPromise7TriesAreEnough(t *testing.T) {
	for marks := 2; marks <= 8; marks++ {
		for slack := range marks {
			tries, _ := impl.TriesOf(marks, slack)
			tried := numberLists(tries, 2)
			n, ok := impl.CountTries(marks, slack, 2)
			same(t, fmt.Sprint("CountTries ", marks, slack), n, ok, len(tried))
			for _, code := range dialCodesOf(marks, 2) {
				met := slices.ContainsFunc(tried, func(try []int) bool {
					is, _ := impl.AreClose(marks, slack, code, try)
					return is
				})
				same(t, fmt.Sprint("tries for ", marks, slack, code), met, true, true)
			}
		}
	}
}
