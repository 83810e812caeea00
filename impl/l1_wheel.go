package impl

import "slices"

const MaxWheels = 6
const MaxTurns = 200
const MaxWays = 1000000000000000

const (
	minDigits        = 2
	maxDigits        = 10
	maxAskedDistance = 100
)

type Lock struct {
	Wheels int
	Digits int
}

type Turn struct {
	Wheel int
	By    int
}

// A turn means something only on a lock: which wheels there are, and where the digits go around.
type turnedLock struct {
	Lock
	Turn
}

func forth(wheel int) Turn { return Turn{Wheel: wheel, By: 1} }

func back(wheel int) Turn { return Turn{Wheel: wheel, By: -1} }

func (t turnedLock) isValid() bool {
	if t.Wheel < 0 || t.Wheel >= t.Wheels {
		return false
	}
	return t.Turn == forth(t.Wheel) || t.Turn == back(t.Wheel)
}

func (t turnedLock) turnDigits(digits []int) {
	digits[t.Wheel] = t.sum(digits[t.Wheel], t.By)
}

func (l Lock) sum(a int, b int) int { return (a + b + l.Digits) % l.Digits }

func (l Lock) difference(a int, b int) int { return (a - b + l.Digits) % l.Digits }

func (l Lock) digitDistance(a int, b int) int {
	return min(l.difference(a, b), l.difference(b, a))
}

func (l Lock) hasCode(code string) bool {
	if !IsLock(l) || len(code) != l.Wheels {
		return false
	}
	for i := range len(code) {
		if code[i] < '0' || int(code[i]-'0') >= l.Digits {
			return false
		}
	}
	return true
}

func (l Lock) hasTurns(turns []Turn) bool {
	if len(turns) > MaxTurns {
		return false
	}
	for _, t := range turns {
		if !(turnedLock{Lock: l, Turn: t}).isValid() {
			return false
		}
	}
	return true
}

func digitsOf(code string) []int {
	digits := make([]int, len(code))
	for i := range digits {
		digits[i] = int(code[i] - '0')
	}
	return digits
}

func codeOf(digits []int) string {
	code := make([]byte, len(digits))
	for i, digit := range digits {
		code[i] = byte('0' + digit)
	}
	return string(code)
}

func pairDigits(l Lock, a string, b string, pair func(Lock, int, int) int) []int {
	digits := digitsOf(a)
	for i, other := range digitsOf(b) {
		digits[i] = pair(l, digits[i], other)
	}
	return digits
}

// IsLock reports whether l, whose numbers may be any, is a lock.
func IsLock(l Lock) bool {
	return l.Wheels >= 1 && l.Wheels <= MaxWheels && l.Digits >= minDigits && l.Digits <= maxDigits
}

// IsCode reports whether a text is a code of a lock.
func IsCode(l Lock, code string) (bool, bool) {
	return l.hasCode(code), IsLock(l)
}

// CountCodes returns how many codes there are.
func CountCodes(l Lock) (int, bool) {
	if !IsLock(l) {
		return 0, false
	}
	count := 1
	for range l.Wheels {
		count *= l.Digits
	}
	return count, true
}

// ZeroCode returns the code with all digits 0.
func ZeroCode(l Lock) (string, bool) {
	if !IsLock(l) {
		return "", false
	}
	return codeOf(make([]int, l.Wheels)), true
}

// TurnWheel returns the code behind a turn.
func TurnWheel(l Lock, code string, t Turn) (string, bool) {
	return TurnWheels(l, code, []Turn{t})
}

// TurnWheels returns the code behind all turns, one after the other.
func TurnWheels(l Lock, code string, turns []Turn) (string, bool) {
	if !l.hasCode(code) || !l.hasTurns(turns) {
		return "", false
	}
	digits := digitsOf(code)
	for _, t := range turns {
		turnedLock{Lock: l, Turn: t}.turnDigits(digits)
	}
	return codeOf(digits), true
}

// BackTurns returns the turns that lead back, in the other order.
func BackTurns(l Lock, turns []Turn) ([]Turn, bool) {
	if !IsLock(l) || !l.hasTurns(turns) {
		return nil, false
	}
	backTurns := make([]Turn, 0, len(turns))
	for _, t := range slices.Backward(turns) {
		backTurns = append(backTurns, Turn{Wheel: t.Wheel, By: -t.By})
	}
	return backTurns, true
}

// FewestTurns returns the distance of two codes.
func FewestTurns(l Lock, from string, to string) (int, bool) {
	if !l.hasCode(from) || !l.hasCode(to) {
		return 0, false
	}
	fewest := 0
	for _, distance := range pairDigits(l, from, to, Lock.digitDistance) {
		fewest += distance
	}
	return fewest, true
}

// FirstTurns returns the lexicographically first list of so few turns that lead from one to the other one.
func FirstTurns(l Lock, from string, to string) ([]Turn, bool) {
	if !l.hasCode(from) || !l.hasCode(to) {
		return nil, false
	}
	var turns []Turn
	for wheel, ahead := range pairDigits(l, to, from, Lock.difference) {
		t, times := forth(wheel), ahead
		if behind := l.Digits - ahead; behind < ahead {
			t, times = back(wheel), behind
		}
		turns = append(turns, slices.Repeat([]Turn{t}, times)...)
	}
	return turns, true
}

// CountFewest returns how many such lists there are. It fails if there are more than MaxWays.
func CountFewest(l Lock, from string, to string) (int, bool) {
	if !l.hasCode(from) || !l.hasCode(to) {
		return 0, false
	}
	ways, turns := 1, 0
	for _, distance := range pairDigits(l, from, to, Lock.digitDistance) {
		if 2*distance == l.Digits { // both directions are as short
			ways *= 2
		}
		for k := 1; k <= distance; k++ {
			// The ways never become fewer, so that leaving off at the limit keeps this product small.
			turns++
			ways = ways * turns / k
			if ways > MaxWays {
				return 0, false
			}
		}
	}
	return ways, true
}

// NextCodes returns all codes at the distance 1, in order.
func NextCodes(l Lock, code string) ([]string, bool) {
	if !l.hasCode(code) {
		return nil, false
	}
	var codes []string
	for wheel := range l.Wheels {
		for _, t := range []Turn{forth(wheel), back(wheel)} {
			digits := digitsOf(code)
			turnedLock{Lock: l, Turn: t}.turnDigits(digits)
			codes = append(codes, codeOf(digits))
		}
	}
	// On wheels of two digits both turns lead to the same code.
	slices.Sort(codes)
	return slices.Compact(codes), true
}

// CountAtDistance returns how many codes have a distance, in 0..100, from a code: the same for each one.
func CountAtDistance(l Lock, distance int) (int, bool) {
	if !IsLock(l) || distance < 0 || distance > maxAskedDistance {
		return 0, false
	}
	counts := make([]int, maxAskedDistance+1)
	counts[0] = 1
	for range l.Wheels {
		counts = l.countsWithWheel(counts)
	}
	return counts[distance], true
}

func (l Lock) countsWithWheel(counts []int) []int {
	more := make([]int, len(counts))
	for digit := range l.Digits {
		own := l.digitDistance(0, digit)
		for distance := own; distance < len(more); distance++ {
			more[distance] += counts[distance-own]
		}
	}
	return more
}

// FarthestCodes returns all codes with the greatest distance from a code, in order, and this distance.
func FarthestCodes(l Lock, code string) ([]string, int, bool) {
	if !l.hasCode(code) {
		return nil, 0, false
	}
	codes := []string{""}
	for _, digit := range digitsOf(code) {
		codes = l.appendFarthest(codes, digit)
	}
	return codes, l.Wheels * (l.Digits / 2), true
}

func (l Lock) appendFarthest(starts []string, from int) []string {
	var longer []string
	for _, start := range starts {
		for digit := range l.Digits {
			if l.digitDistance(from, digit) == l.Digits/2 {
				longer = append(longer, start+codeOf([]int{digit}))
			}
		}
	}
	return longer
}

// MeanDistance returns numerator and denominator, in lowest terms, of the mean distance of all codes, itself with them, from one code.
func MeanDistance(l Lock) (int, int, bool) {
	if !IsLock(l) {
		return 0, 0, false
	}
	// The wheels are alike, so that the mean is that of one of them as often.
	total := 0
	for digit := range l.Digits {
		total += l.Wheels * l.digitDistance(0, digit)
	}
	divisor := commonDivisor(total, l.Digits)
	return total / divisor, l.Digits / divisor, true
}

func commonDivisor(a int, b int) int {
	for b != 0 {
		a, b = b, a%b
	}
	return a
}

// NumberOfCode returns the number of a code among all of them in order, from 0 on.
func NumberOfCode(l Lock, code string) (int, bool) {
	if !l.hasCode(code) {
		return 0, false
	}
	number := 0
	for _, digit := range digitsOf(code) {
		number = number*l.Digits + digit
	}
	return number, true
}

// CodeOfNumber returns the code with a number. It fails if there is none.
func CodeOfNumber(l Lock, n int) (string, bool) {
	count, ok := CountCodes(l)
	if !ok || n < 0 || n >= count {
		return "", false
	}
	digits := make([]int, l.Wheels)
	for wheel := l.Wheels - 1; wheel >= 0; wheel-- {
		digits[wheel] = n % l.Digits
		n /= l.Digits
	}
	return codeOf(digits), true
}

// AddCodes returns the code in which each digit is the sum of both, around.
func AddCodes(l Lock, a string, b string) (string, bool) {
	if !l.hasCode(a) || !l.hasCode(b) {
		return "", false
	}
	return codeOf(pairDigits(l, a, b, Lock.sum)), true
}

// OppositeCode returns the code that AddCodes leads to the code of zeros.
func OppositeCode(l Lock, code string) (string, bool) {
	zeros, ok := ZeroCode(l)
	if !ok || !l.hasCode(code) {
		return "", false
	}
	return codeOf(pairDigits(l, zeros, code, Lock.difference)), true
}

// A text of turns names no lock, so that any wheel that some lock has may be in it.
func areTextTurns(turns []Turn) bool {
	return Lock{Wheels: MaxWheels, Digits: maxDigits}.hasTurns(turns)
}

// TurnsText returns for each turn the number of its wheel and + or -, for turns of wheels 0..MaxWheels - 1.
func TurnsText(turns []Turn) (string, bool) {
	if !areTextTurns(turns) {
		return "", false
	}
	text := make([]byte, 0, 2*len(turns))
	for _, t := range turns {
		sign := byte('-')
		if t == forth(t.Wheel) {
			sign = '+'
		}
		text = append(text, byte('0'+t.Wheel), sign)
	}
	return string(text), true
}

// ParseTurns returns the turns with a TurnsText. It fails if there are none such, or too many.
func ParseTurns(s string) ([]Turn, bool) {
	if len(s)%2 != 0 || len(s) > 2*MaxTurns {
		return nil, false
	}
	turns := make([]Turn, 0, len(s)/2)
	for i := 0; i < len(s); i += 2 {
		wheel := int(s[i]) - '0'
		switch s[i+1] {
		case '+':
			turns = append(turns, forth(wheel))
		case '-':
			turns = append(turns, back(wheel))
		default:
			return nil, false
		}
	}
	if !areTextTurns(turns) {
		return nil, false
	}
	return turns, true
}
