package tests

import (
	"fmt"
	"slices"
	"strings"
	"testing"

	"loop.example/g01304/impl"
)

// Promise 6: codes that fit have just these hints, and plays end at the code.

func TestPromise6Example(t *testing.T) {
	l := lockOf(3, 4)
	places, others, ok := impl.HintOf(l, "012", "021")
	same(t, "Places", places, ok, 1)
	same(t, "Others", others, ok, 2)
	hints := []impl.Hint{hintWith("012", 1, 2)}
	codes, ok := impl.FittingCodes(l, hints)
	sameList(t, "FittingCodes", codes, ok, []string{"021", "102", "210"})
	n, ok := impl.CountFitting(l, hints)
	same(t, "CountFitting", n, ok, 3)
	rows, ok := impl.PossibleHints(l)
	sameRows(t, "PossibleHints", rows, ok, [][]int{{0, 0}, {0, 1}, {0, 2}, {0, 3}, {1, 0}, {1, 1}, {1, 2}, {2, 0}, {3, 0}})
	n, ok = impl.CountFitting(l, []impl.Hint{hintWith("012", 2, 1)})
	same(t, "CountFitting of two places and one other digit", n, ok, 0)
	l = lockOf(2, 2)
	played, ok := impl.PlayFirst(l, "11")
	sameList(t, "PlayFirst", played, ok, []impl.Hint{hintWith("00", 0, 0), hintWith("11", 2, 0)})
	n, ok = impl.CountGuesses(l, "11")
	same(t, "CountGuesses", n, ok, 2)
	n, ok = impl.CountWithHint(l, 1, 0)
	same(t, "CountWithHint", n, ok, 2)
}

func TestPromise6Limits(t *testing.T) {
	same(t, "MaxHints", impl.MaxHints, true, 10)
	same(t, "MaxHinted", impl.MaxHinted, true, 256)
}

// Each digit is common as often as it is in both, and no place is told again as an other digit.
func TestPromise6DigitsThatAreMoreThanOnce(t *testing.T) {
	cases := []struct {
		guess, code    string
		places, others int
	}{
		{"0000", "0000", 4, 0}, {"0000", "0001", 3, 0}, {"0000", "1111", 0, 0}, {"0001", "0000", 3, 0}, {"0011", "1100", 0, 4},
		{"0011", "0101", 2, 2}, {"0012", "1000", 1, 2}, {"0012", "1222", 1, 1}, {"0122", "2210", 0, 4}, {"0122", "2222", 2, 0},
		{"0111", "1000", 0, 2}, {"1000", "0111", 0, 2}, {"0123", "3210", 0, 4}, {"0123", "0132", 2, 2}, {"3330", "0333", 2, 2},
		{"0033", "1122", 0, 0}, {"2233", "3322", 0, 4}, {"2223", "3332", 0, 2}, {"0012", "0021", 2, 2}, {"1002", "0100", 1, 2},
	}
	for _, c := range cases {
		places, others, ok := impl.HintOf(lockOf(4, 4), c.guess, c.code)
		same(t, "Places of "+c.guess+" for "+c.code, places, ok, c.places)
		same(t, "Others of "+c.guess+" for "+c.code, others, ok, c.others)
	}
}

func TestPromise6HintsOfAllGuesses(t *testing.T) {
	for _, l := range locksUpTo(mostSearched) {
		codes := codesOf(l)
		for _, guess := range codes {
			for k := 0; k < len(codes); k += 1 + len(codes)/300 { // all of them, but for the largest locks
				want := struckHint(guess, codes[k])
				places, others, ok := impl.HintOf(l, guess, codes[k])
				if !ok || places != want.Places || others != want.Others {
					t.Errorf("HintOf %v %s %s: got %d, %d, %v, want %v", l, guess, codes[k], places, others, ok, want)
				}
			}
		}
	}
}

// A guess that is the code itself has all places, and no other code has these.
func TestPromise6GuessesThatAreTheCode(t *testing.T) {
	for _, l := range locksUpTo(mostSearched) {
		codes := codesOf(l)
		for i := 0; i < len(codes); i += 1 + len(codes)/20 {
			code := codes[i]
			what := fmt.Sprint(l, code)
			places, others, ok := impl.HintOf(l, code, code)
			same(t, "Places "+what, places, ok, l.Wheels)
			same(t, "Others "+what, others, ok, 0)
			hints := []impl.Hint{hintWith(code, l.Wheels, 0)}
			fitting, ok := impl.FittingCodes(l, hints)
			sameList(t, "FittingCodes "+what, fitting, ok, []string{code})
			rows, ok := impl.HintTable(l, hints, code)
			sameRows(t, "HintTable "+what, rows, ok, [][]int{{l.Wheels, 0, 1}})
			n, ok := impl.WorstOfGuess(l, hints, code)
			same(t, "WorstOfGuess "+what, n, ok, 1)
		}
	}
}

func TestPromise6NoHints(t *testing.T) {
	for _, l := range locksUpTo(mostSearched) {
		codes := codesOf(l)
		what := fmt.Sprint(l)
		for _, hints := range [][]impl.Hint{nil, {}} {
			are, ok := impl.AreHints(l, hints)
			same(t, "AreHints "+what, are, ok, true)
			n, ok := impl.CountFitting(l, hints)
			same(t, "CountFitting "+what, n, ok, len(codes))
			fitting, ok := impl.FittingCodes(l, hints)
			sameList(t, "FittingCodes "+what, fitting, ok, codes)
			indices, ok := impl.NeedlessHints(l, hints)
			sameList(t, "NeedlessHints "+what, indices, ok, nil)
			for i := 0; i < len(codes); i += 1 + len(codes)/9 {
				fits, ok := impl.FitsHints(l, hints, codes[i])
				same(t, "FitsHints "+what, fits, ok, true)
				sameTable(t, l, hints, codes[i])
			}
		}
	}
}

// One hint alone, whatever it tells and of whatever guess.
func TestPromise6OneHint(t *testing.T) {
	for _, l := range locksUpTo(64) {
		codes := codesOf(l)
		for i, guess := range codes {
			for _, told := range placesAndOthers(l) {
				hints := []impl.Hint{hintWith(guess, told[0], told[1])}
				sameFitting(t, l, hints)
				sameTable(t, l, hints, codes[(i*7+3)%len(codes)])
			}
		}
	}
}

// Two hints, whatever they tell: many of them are hints that no code fits, and some are the same one twice.
func TestPromise6TwoHints(t *testing.T) {
	for _, l := range locksUpTo(9) {
		codes := codesOf(l)
		for _, guess := range codes {
			for _, other := range codes {
				for _, told := range placesAndOthers(l) {
					for _, more := range placesAndOthers(l) {
						hints := []impl.Hint{hintWith(guess, told[0], told[1]), hintWith(other, more[0], more[1])}
						sameFitting(t, l, hints)
					}
				}
				hints := []impl.Hint{struckHint(guess, other), struckHint(other, guess)}
				sameTable(t, l, hints, guess)
				sameBest(t, l, hints)
			}
		}
	}
}

// Up to as many hints as there may be, for a code or for none, on locks up to the largest ones.
func TestPromise6ManyHints(t *testing.T) {
	d := &drawn{last: 6}
	for _, l := range locksUpTo(mostSearched) {
		codes := codesOf(l)
		for count := range impl.MaxHints + 1 {
			code := d.codeOf(codes)
			hints := d.hintsFor(codes, code, count)
			sameFitting(t, l, hints)
			sameTable(t, l, hints, d.codeOf(codes))
			fits, ok := impl.FitsHints(l, hints, code)
			same(t, fmt.Sprint("FitsHints ", l, hints, code), fits, ok, true)
			hints = d.anyHints(l, codes, count)
			sameFitting(t, l, hints)
			sameTable(t, l, hints, d.codeOf(codes))
		}
	}
}

// Hints beside true ones that are wrong in one number alone.
func TestPromise6HintsNearTrueOnes(t *testing.T) {
	d := &drawn{last: 61}
	for _, l := range []impl.Lock{lockOf(3, 4), lockOf(4, 3), lockOf(3, 10), lockOf(4, 5), lockOf(6, 3)} {
		codes := codesOf(l)
		for range 40 {
			code := d.codeOf(codes)
			hints := d.hintsFor(codes, code, 3)
			for _, k := range []int{0, 2} {
				for _, wrong := range [][]int{{1, 0}, {-1, 0}, {0, 1}, {0, -1}, {1, -1}, {-1, 1}} {
					near := slices.Clone(hints)
					near[k].Places += wrong[0]
					near[k].Others += wrong[1]
					if near[k].Places < 0 || near[k].Others < 0 || near[k].Places+near[k].Others > l.Wheels {
						failsWithHints(t, fmt.Sprint(l, near), l, near, code)
						continue
					}
					fits, ok := impl.FitsHints(l, near, code)
					same(t, fmt.Sprint("FitsHints ", l, near, code), fits, ok, false)
				}
			}
		}
	}
}

func TestPromise6HintsThatNoCodeFits(t *testing.T) {
	l := lockOf(3, 4)
	lists := [][]impl.Hint{
		{hintWith("012", 2, 1)}, {hintWith("000", 0, 1)}, {hintWith("001", 3, 0), hintWith("002", 3, 0)}, {hintWith("012", 0, 0), hintWith("333", 0, 0)},
		{hintWith("012", 1, 2), hintWith("012", 1, 1)}, {hintWith("123", 0, 0), hintWith("000", 2, 0)}, slices.Repeat([]impl.Hint{hintWith("111", 1, 2)}, 10),
	}
	for _, hints := range lists {
		what := fmt.Sprint(hints)
		codes, ok := impl.FittingCodes(l, hints)
		sameList(t, "FittingCodes "+what, codes, ok, nil)
		n, ok := impl.CountFitting(l, hints)
		same(t, "CountFitting "+what, n, ok, 0)
		n, ok = impl.WorstOfGuess(l, hints, "012")
		same(t, "WorstOfGuess "+what, n, ok, 0)
		rows, ok := impl.HintTable(l, hints, "012")
		sameRows(t, "HintTable "+what, rows, ok, nil)
		guess, worst, ok := impl.BestGuess(l, hints)
		failsBest(t, "BestGuess "+what, guess, worst, ok)
		sameFitting(t, l, hints)
	}
}

func TestPromise6NeedlessHints(t *testing.T) {
	l := lockOf(3, 4)
	one, other, none := hintWith("012", 1, 2), hintWith("021", 3, 0), hintWith("333", 0, 0)
	cases := []struct {
		hints []impl.Hint
		want  []int
	}{
		{nil, nil}, {[]impl.Hint{one}, nil}, {[]impl.Hint{one, one}, []int{0, 1}}, {[]impl.Hint{one, one, one}, []int{0, 1, 2}},
		{[]impl.Hint{one, other}, []int{0}}, {[]impl.Hint{other, one}, []int{1}}, {[]impl.Hint{other, one, other}, []int{0, 1, 2}},
		{[]impl.Hint{one, none}, []int{1}}, {[]impl.Hint{none, one}, []int{0}}, {[]impl.Hint{none}, nil}, {[]impl.Hint{none, none, one}, []int{0, 1}},
		// Without one of two hints that no code fits together, some do.
		{[]impl.Hint{hintWith("001", 3, 0), hintWith("002", 3, 0)}, nil},
		{[]impl.Hint{hintWith("000", 0, 1), one}, []int{1}},
		{slices.Repeat([]impl.Hint{one}, 10), []int{0, 1, 2, 3, 4, 5, 6, 7, 8, 9}},
	}
	for _, c := range cases {
		indices, ok := impl.NeedlessHints(l, c.hints)
		sameList(t, fmt.Sprint("NeedlessHints ", c.hints), indices, ok, c.want)
	}
}

// Hints that no guess and no code has can be told still: they are hints that no code fits.
func TestPromise6PlacesAndOthersUpToTheWheels(t *testing.T) {
	for _, l := range locksUpTo(mostSearched) {
		zeros := strings.Repeat("0", l.Wheels)
		for _, told := range placesAndOthers(l) {
			sameTable(t, l, []impl.Hint{hintWith(zeros, told[0], told[1])}, zeros)
			are, ok := impl.AreHints(l, []impl.Hint{hintWith(zeros, told[0], told[1])})
			same(t, fmt.Sprint("AreHints ", l, told), are, ok, true)
		}
	}
}

func TestPromise6TablesOfAllGuesses(t *testing.T) {
	d := &drawn{last: 16}
	for _, l := range locksUpTo(mostHinted) {
		codes := codesOf(l)
		for i := 0; i < len(codes); i += 1 + len(codes)/50 {
			sameTable(t, l, nil, codes[i])
			sameTable(t, l, d.hintsFor(codes, d.codeOf(codes), 1), codes[i])
			sameTable(t, l, d.anyHints(l, codes, 1), codes[i])
		}
	}
	rows, ok := impl.HintTable(lockOf(2, 3), nil, "01")
	sameRows(t, "HintTable", rows, ok, [][]int{{0, 0, 1}, {0, 1, 2}, {0, 2, 1}, {1, 0, 4}, {2, 0, 1}})
	n, ok := impl.WorstOfGuess(lockOf(2, 3), nil, "01")
	same(t, "WorstOfGuess", n, ok, 4)
}

func TestPromise6BestGuesses(t *testing.T) {
	d := &drawn{last: 26}
	for _, l := range locksUpTo(mostHinted) {
		codes := codesOf(l)
		sameBest(t, l, nil)
		for count := range 4 {
			sameBest(t, l, d.hintsFor(codes, d.codeOf(codes), 1+count))
		}
		sameBest(t, l, d.hintsFor(codes, d.codeOf(codes), impl.MaxHints))
		sameBest(t, l, d.anyHints(l, codes, 2))
	}
}

// A code that cannot be the one may part those that can be better than each of these.
func TestPromise6BestGuessesThatDoNotFit(t *testing.T) {
	met := false
	for _, l := range []impl.Lock{lockOf(3, 3), lockOf(3, 4), lockOf(2, 6)} {
		codes := codesOf(l)
		for _, guess := range codes {
			for _, told := range placesAndOthers(l) {
				hints := []impl.Hint{hintWith(guess, told[0], told[1])}
				sameBest(t, l, hints)
				best, _, ok := impl.BestGuess(l, hints)
				met = met || ok && !fitsStruck(hints, best)
			}
		}
	}
	same(t, "a best guess that does not fit", met, true, true)
}

func samePlay(t *testing.T, l impl.Lock, code string) {
	t.Helper()
	what := fmt.Sprint(l, code)
	want := playFor(l, code)
	hints, ok := impl.PlayFirst(l, code)
	sameList(t, "PlayFirst "+what, hints, ok, want)
	n, ok := impl.CountGuesses(l, code)
	same(t, "CountGuesses "+what, n, ok, len(want))
}

func TestPromise6Plays(t *testing.T) {
	for _, l := range locksUpTo(mostSearched) {
		for _, code := range codesOf(l) {
			samePlay(t, l, code)
		}
	}
}

func TestPromise6GuessesFitTheHintsBefore(t *testing.T) {
	for _, l := range []impl.Lock{lockOf(1, 10), lockOf(2, 5), lockOf(3, 4), lockOf(4, 4), lockOf(6, 3), lockOf(3, 10)} {
		codes := codesOf(l)
		for i := 0; i < len(codes); i += 1 + len(codes)/60 {
			hints, ok := impl.PlayFirst(l, codes[i])
			what := fmt.Sprint(l, codes[i])
			same(t, "last guess "+what, hints[len(hints)-1], ok, hintWith(codes[i], l.Wheels, 0))
			for k := range min(len(hints), impl.MaxHints+1) {
				fitting, ok := impl.FittingCodes(l, hints[:k])
				same(t, fmt.Sprint("guess ", k, what), hints[k].Guess, ok, fitting[0])
			}
		}
	}
}

// A play may have more hints than may be told to a function.
func TestPromise6PlaysLongerThanLists(t *testing.T) {
	l := lockOf(2, 10)
	hints, ok := impl.PlayFirst(l, "98")
	var want []impl.Hint
	for _, guess := range []string{"00", "11", "22", "33", "44", "55", "66", "77"} {
		want = append(want, hintWith(guess, 0, 0))
	}
	want = append(want, hintWith("88", 1, 0), hintWith("89", 0, 2), hintWith("98", 2, 0))
	sameList(t, "PlayFirst", hints, ok, want)
	n, ok := impl.CountGuesses(l, "98")
	same(t, "CountGuesses", n, ok, 11)
	n, ok = impl.MostGuesses(l)
	same(t, "MostGuesses", n, ok, 11)
	codes, ok := impl.HardestCodes(l)
	sameList(t, "HardestCodes", codes, ok, []string{"98"})
}

func TestPromise6HardestCodes(t *testing.T) {
	for _, l := range locksUpTo(mostHinted) {
		most := 0
		var hardest []string
		for _, code := range codesOf(l) {
			switch guesses := len(playFor(l, code)); {
			case guesses > most:
				most, hardest = guesses, []string{code}
			case guesses == most:
				hardest = append(hardest, code)
			}
		}
		n, ok := impl.MostGuesses(l)
		same(t, fmt.Sprint("MostGuesses ", l), n, ok, most)
		codes, ok := impl.HardestCodes(l)
		sameList(t, fmt.Sprint("HardestCodes ", l), codes, ok, hardest)
	}
}

func TestPromise6PossibleHints(t *testing.T) {
	for _, l := range locksUpTo(mostHinted) {
		met := map[[2]int]bool{}
		for _, guess := range codesOf(l) {
			for _, code := range codesOf(l) {
				hint := struckHint(guess, code)
				met[[2]int{hint.Places, hint.Others}] = true
			}
		}
		var want [][]int
		for _, told := range placesAndOthers(l) {
			if met[[2]int{told[0], told[1]}] {
				want = append(want, told)
			}
		}
		rows, ok := impl.PossibleHints(l)
		sameRows(t, fmt.Sprint("PossibleHints ", l), rows, ok, want)
	}
}

// Each code has some hint, so that all counts together are all codes; no other digit is ever common with zeros.
func TestPromise6CountsWithHint(t *testing.T) {
	for _, l := range locksUpTo(mostSearched) {
		zeros := strings.Repeat("0", l.Wheels)
		all := 0
		for _, told := range placesAndOthers(l) {
			want := len(fittingIn(codesOf(l), []impl.Hint{hintWith(zeros, told[0], told[1])}))
			n, ok := impl.CountWithHint(l, told[0], told[1])
			what := fmt.Sprint("CountWithHint ", l, told)
			same(t, what, n, ok, want)
			same(t, what+" of other digits", n == 0, ok, told[1] > 0)
			all += n
		}
		same(t, fmt.Sprint("all codes ", l), all, true, codesCounted(l))
	}
}

func TestPromise6OneWheel(t *testing.T) {
	for digits := 2; digits <= 10; digits++ {
		l := lockOf(1, digits)
		what := fmt.Sprint(l)
		codes := codesOf(l)
		var guessed []impl.Hint
		for i, code := range codes {
			want := slices.Concat(guessed, []impl.Hint{hintWith(code, 1, 0)})
			hints, ok := impl.PlayFirst(l, code)
			sameList(t, "PlayFirst "+what+code, hints, ok, want)
			n, ok := impl.CountGuesses(l, code)
			same(t, "CountGuesses "+what+code, n, ok, i+1)
			n, ok = impl.CountFitting(l, []impl.Hint{hintWith(code, 0, 0)})
			same(t, "CountFitting "+what+code, n, ok, digits-1)
			n, ok = impl.CountFitting(l, []impl.Hint{hintWith(code, 0, 1)})
			same(t, "CountFitting of another digit "+what+code, n, ok, 0)
			fitting, ok := impl.FittingCodes(l, guessed)
			sameList(t, "FittingCodes "+what+code, fitting, ok, codes[i:])
			rows, ok := impl.HintTable(l, nil, code)
			sameRows(t, "HintTable "+what+code, rows, ok, [][]int{{0, 0, digits - 1}, {1, 0, 1}})
			guessed = append(guessed, hintWith(code, 0, 0))
		}
		n, ok := impl.MostGuesses(l)
		same(t, "MostGuesses "+what, n, ok, digits)
		hardest, ok := impl.HardestCodes(l)
		sameList(t, "HardestCodes "+what, hardest, ok, codes[digits-1:])
		rows, ok := impl.PossibleHints(l)
		sameRows(t, "PossibleHints "+what, rows, ok, [][]int{{0, 0}, {1, 0}})
		guess, worst, ok := impl.BestGuess(l, nil)
		same(t, "BestGuess "+what, guess, ok, "0")
		same(t, "BestGuess "+what, worst, ok, digits-1)
	}
}

func TestPromise6LocksUpToTheLimits(t *testing.T) {
	largest, hinted := lockOf(3, 10), lockOf(4, 4)
	same(t, "codes", codesCounted(largest), true, impl.MaxSearched)
	same(t, "codes", codesCounted(hinted), true, impl.MaxHinted)
	n, ok := impl.CountFitting(largest, slices.Repeat([]impl.Hint{hintWith("999", 0, 0)}, impl.MaxHints))
	same(t, "CountFitting", n, ok, 729)
	samePlay(t, largest, "999")
	guess, worst, ok := impl.BestGuess(hinted, nil)
	wantGuess, wantWorst := bestIn(hinted, nil)
	same(t, "BestGuess", guess, ok, wantGuess)
	same(t, "BestGuess", worst, ok, wantWorst)
	rows, ok := impl.PossibleHints(hinted)
	same(t, "PossibleHints", len(rows), ok, 14)
	for _, l := range locksOver(mostHinted) {
		if codesCounted(l) <= mostSearched {
			failsWithManyHinted(t, fmt.Sprint(l), l, nil)
		}
	}
}
