package money_test

import (
	"math"
	"math/big"
	"regexp"
	"slices"
	"testing"

	"foyer/api"
	"foyer/money"
)

// farNumbers are no amounts; some of them overflow when they are negated or added.
var farNumbers = []int{api.MaxAmount + 1, -api.MaxAmount - 1, math.MaxInt, math.MinInt, math.MinInt + 1}

func TestChapterExamples(t *testing.T) {
	half := api.Ratio{Num: 1, Den: 2}
	for n, want := range map[int]int{5: 2, 7: 4, -5: -2} {
		wantShare(t, n, half, want, api.OK)
	}
	wantSplit(t, 100, []int{1, 1, 1}, []int{34, 33, 33})
	wantSplit(t, -100, []int{1, 1, 1}, []int{-34, -33, -33})
	wantSplit(t, 5, []int{0, 3, 1}, []int{0, 4, 1})
	for n, want := range map[int]string{1205: "12.05", -50: "-0.50", 0: "0.00"} {
		if got := money.Text(n); got != want {
			t.Errorf("Text(%d) = %q, want %q", n, got, want)
		}
	}
	wantNoAmount(t, "1.5")
	wantNoAmount(t, "-0.00")
}

// P1.1, A1.
func TestAmountsReachTheLimits(t *testing.T) {
	for _, n := range []int{0, 1, -1, api.MaxAmount, -api.MaxAmount} {
		if !money.Valid(n) {
			t.Errorf("Valid(%d) = false", n)
		}
	}
	for _, n := range farNumbers {
		if money.Valid(n) {
			t.Errorf("Valid(%d) = true", n)
		}
	}
}

// P1.1, A1.
func TestSum(t *testing.T) {
	most := api.MaxAmount
	for _, test := range []struct {
		l    []int
		want int
		err  api.Errno
	}{
		{nil, 0, api.OK},
		{[]int{}, 0, api.OK},
		{[]int{-7}, -7, api.OK},
		{[]int{1, 2, -4}, -1, api.OK},
		{[]int{most, -most}, 0, api.OK},
		{[]int{most, most, -most}, most, api.OK},
		{[]int{-most, -most, most}, -most, api.OK},
		{[]int{most, 1}, 0, api.ErrRange},
		{[]int{-most, -1}, 0, api.ErrRange},
		{[]int{most + 1, -1}, 0, api.ErrArg},
		{[]int{1, -most - 1}, 0, api.ErrArg},
		{[]int{most, most, most + 1}, 0, api.ErrArg},
		{[]int{math.MaxInt, math.MaxInt}, 0, api.ErrArg},
		{[]int{math.MinInt, math.MinInt}, 0, api.ErrArg},
	} {
		wantSum(t, test.l, test.want, test.err)
	}
}

// P1.2.
func TestSumDoesNotDependOnOrder(t *testing.T) {
	for _, l := range [][]int{
		{5, -3, 12, 0, 7},
		{api.MaxAmount, api.MaxAmount, -api.MaxAmount, -1, -1},
		{-api.MaxAmount, -1, 1, api.MaxAmount - 1, 3},
	} {
		want, err := money.Sum(l)
		if err != api.OK {
			t.Fatalf("Sum(%v): %d", l, err)
		}
		eachOrder(l, func(other []int) { wantSum(t, other, want, api.OK) })
	}
	eachOrder([]int{api.MaxAmount, 5, -2, -2}, func(l []int) { wantSum(t, l, 0, api.ErrRange) })
	eachOrder([]int{api.MaxAmount, 5, api.MaxAmount + 1}, func(l []int) { wantSum(t, l, 0, api.ErrArg) })
}

// P1.2.
func TestSumsOfPartsCanBeAdded(t *testing.T) {
	l := []int{5, -3, api.MaxAmount, -12, 0, -7, 1}
	all, err := money.Sum(l)
	if err != api.OK {
		t.Fatal(err)
	}
	for cut := range len(l) + 1 {
		first, err1 := money.Sum(l[:cut])
		second, err2 := money.Sum(l[cut:])
		if err1 == api.ErrRange || err2 == api.ErrRange {
			continue
		}
		wantSum(t, []int{first, second}, all, api.OK)
	}
}

// P1.1, A2.
func TestShareAtTheLimits(t *testing.T) {
	most := api.MaxAmount
	for _, test := range []struct {
		n, num, den, want int
		err               api.Errno
	}{
		{0, 0, 1, 0, api.OK},
		{0, api.MaxNum, 1, 0, api.OK},
		{most, 0, api.MaxNum, 0, api.OK},
		{most, api.MaxNum, api.MaxNum, most, api.OK},
		{-most, api.MaxNum, api.MaxNum, -most, api.OK},
		{most, 1, api.MaxNum, 1000, api.OK},
		{1000, api.MaxNum, 1, most, api.OK},
		{1001, api.MaxNum, 1, 0, api.ErrRange},
		{most - 1, api.MaxNum - 1, api.MaxNum, 999998999, api.OK},
		{most, api.MaxNum, api.MaxNum - 1, 0, api.ErrRange},
		{-most, api.MaxNum, api.MaxNum - 1, 0, api.ErrRange},
		{most, api.MaxNum, 1, 0, api.ErrRange},
		{666666667, 3, 2, most, api.OK}, // 1000000000.5: the even neighbour is still an amount
		{-666666667, 3, 2, -most, api.OK},
		{400000001, 5, 2, 0, api.ErrRange}, // 1000000002.5
		{1, 1, api.MaxNum, 0, api.OK},
	} {
		wantShare(t, test.n, api.Ratio{Num: test.num, Den: test.den}, test.want, test.err)
	}
}

// P1.1, A2, and P1: the argument's error comes before that of the result.
func TestShareRefusesWhatIsNotValid(t *testing.T) {
	for _, n := range farNumbers {
		wantShare(t, n, api.Ratio{Num: 1, Den: 2}, 0, api.ErrArg)
		wantShare(t, n, api.Ratio{Num: 5, Den: 2}, 0, api.ErrArg)
		wantShare(t, n, api.Ratio{}, 0, api.ErrArg)
	}
	for _, r := range []api.Ratio{
		{},
		{Num: 1, Den: 0},
		{Num: 1, Den: -1},
		{Num: -1, Den: 1},
		{Num: -1, Den: -1},
		{Num: api.MaxNum + 1, Den: api.MaxNum},
		{Num: 1, Den: api.MaxNum + 1},
		{Num: math.MaxInt, Den: math.MaxInt},
		{Num: math.MinInt, Den: math.MinInt},
		{Num: 1, Den: math.MinInt},
	} {
		for _, n := range []int{0, 1, -1, api.MaxAmount, -api.MaxAmount} {
			wantShare(t, n, r, 0, api.ErrArg)
		}
	}
}

// P1.3.
func TestShareIsNearestAndEvenOfTwo(t *testing.T) {
	eachSmallShare(t, func(n int, r api.Ratio, share int) {
		wantNearest(t, n, r, share)
	})
	for _, n := range []int{api.MaxAmount, api.MaxAmount - 1, 333333333, 123456789, 1} {
		for _, pair := range [][2]int{{1, 2}, {1, 3}, {2, 3}, {999999, 1000000}, {500000, 1000000}, {1, 1000000}, {314159, 999983}, {1000000, 1000000}} {
			r := api.Ratio{Num: pair[0], Den: pair[1]}
			for _, m := range []int{n, -n} {
				share, err := money.Share(m, r)
				if err != api.OK {
					t.Fatalf("Share(%d, %v): %d", m, r, err)
				}
				wantNearest(t, m, r, share)
			}
		}
	}
}

// P1.3.
func TestShareGrowsWithTheAmount(t *testing.T) {
	eachSmallShare(t, func(n int, r api.Ratio, share int) {
		next, err := money.Share(n+1, r)
		if err != api.OK || next < share {
			t.Errorf("Share(%d, %v) = %d, but Share(%d) = %d, %d", n, r, share, n+1, next, err)
		}
	})
}

// P1.3.
func TestShareOfTheOppositeIsOpposite(t *testing.T) {
	eachSmallShare(t, func(n int, r api.Ratio, share int) {
		wantShare(t, -n, r, -share, api.OK)
	})
}

// P1.1, A3.
func TestSplitGivesTheRestToTheGreatestRemainders(t *testing.T) {
	eachSmallSplit(t, func(n int, weights, parts []int) {
		if want := plainSplit(n, weights); !slices.Equal(parts, want) {
			t.Errorf("Split(%d, %v) = %v, want %v", n, weights, parts, want)
		}
	})
	most := api.MaxAmount
	wantSplit(t, most, []int{most, most, most}, []int{333333334, 333333333, 333333333})
	wantSplit(t, -most, []int{most, most - 1}, []int{-500000000, -500000000})
	wantSplit(t, most, []int{1, most}, []int{1, most - 1})
	wantSplit(t, most, []int{0, most, 0}, []int{0, most, 0})
	wantSplit(t, 10, []int{6, 3, 2}, []int{5, 3, 2})
}

// P1.1, A3.
func TestSplitRefusesWhatIsNotValid(t *testing.T) {
	for _, n := range farNumbers {
		wantNoSplit(t, n, []int{1})
		wantNoSplit(t, n, nil)
		wantNoSplit(t, 1, []int{1, n})
		wantNoSplit(t, 1, []int{n, n})
	}
	for _, weights := range [][]int{nil, {}, {0}, {0, 0, 0}, {-1}, {2, -1}, {-1, 2}, {-1, 1}} {
		wantNoSplit(t, 0, weights)
		wantNoSplit(t, 7, weights)
		wantNoSplit(t, -7, weights)
	}
}

// P1.4.
func TestPartsAddUpAndAreNearlyExact(t *testing.T) {
	eachSmallSplit(t, func(n int, weights, parts []int) { wantExactParts(t, n, weights, parts) })
	for _, n := range []int{api.MaxAmount, -api.MaxAmount, 999999999, -1} {
		for _, weights := range [][]int{
			{api.MaxAmount, api.MaxAmount, api.MaxAmount},
			{api.MaxAmount, 1, 0, api.MaxAmount - 1},
			{1, 2, 3, 5, 7, 11, 13},
			ramp(4000, 1),
			ramp(4000, 250000),
		} {
			parts, err := money.Split(n, weights)
			if err != api.OK {
				t.Fatalf("Split(%d, ..): %d", n, err)
			}
			wantExactParts(t, n, weights, parts)
		}
	}
}

// P1.5.
func TestSplitIsFair(t *testing.T) {
	eachSmallSplit(t, func(n int, weights, parts []int) {
		sign := 1
		if n < 0 {
			sign = -1
		}
		for i := range parts {
			for j := range parts {
				more := sign * (parts[i] - parts[j])
				if weights[i] > weights[j] && more < 0 {
					t.Errorf("Split(%d, %v) = %v: the greater weight %d gets less", n, weights, parts, i)
				}
				if weights[i] == weights[j] && i < j && more != 0 && more != 1 {
					t.Errorf("Split(%d, %v) = %v: equal weights %d and %d", n, weights, parts, i, j)
				}
			}
		}
	})
}

// P1.6.
func TestSplitDoesNotDependOnScale(t *testing.T) {
	eachSmallSplit(t, func(n int, weights, parts []int) {
		for _, k := range []int{2, 3, 10, 250000000} {
			scaled := make([]int, len(weights))
			for i, w := range weights {
				scaled[i] = k * w
			}
			wantSplit(t, n, scaled, parts)
		}
	})
}

// P1.6.
func TestSplitOfNothingAndByOneWeight(t *testing.T) {
	for _, weights := range [][]int{{1}, {3, 0, 4}, {api.MaxAmount, api.MaxAmount}} {
		wantSplit(t, 0, weights, make([]int, len(weights)))
	}
	for _, n := range []int{0, 1, -1, 99, api.MaxAmount, -api.MaxAmount} {
		for _, w := range []int{1, 2, 7, api.MaxAmount} {
			wantSplit(t, n, []int{w}, []int{n})
		}
	}
}

// P1.1, A4.
func TestTexts(t *testing.T) {
	for n, want := range map[int]string{
		1: "0.01", -1: "-0.01", 10: "0.10", 99: "0.99", 100: "1.00", -100: "-1.00", 109: "1.09", 100000: "1000.00",
		api.MaxAmount: "10000000.00", -api.MaxAmount: "-10000000.00", api.MaxAmount - 1: "9999999.99",
	} {
		if got := money.Text(n); got != want {
			t.Errorf("Text(%d) = %q, want %q", n, got, want)
		}
	}
	for _, n := range farNumbers {
		if got := money.Text(n); got != "" {
			t.Errorf("Text(%d) = %q, want none", n, got)
		}
	}
}

// P1.7.
func TestParseReadsEachTextBack(t *testing.T) {
	seen := map[string]int{}
	check := func(n int) {
		text := money.Text(n)
		if other, twice := seen[text]; twice {
			t.Fatalf("%d and %d have the text %q", n, other, text)
		}
		seen[text] = n
		if got, err := money.Parse(text); got != n || err != api.OK {
			t.Fatalf("Parse(%q) = %d, %d, want %d", text, got, err, n)
		}
	}
	for n := -20000; n <= 20000; n++ {
		check(n)
	}
	for n := 20001; n < api.MaxAmount; n = n*3/2 + 1 {
		check(n)
		check(-n)
	}
	check(api.MaxAmount)
	check(-api.MaxAmount)
}

// P1.7.
func TestParseReadsNoOtherText(t *testing.T) {
	shape := regexp.MustCompile(`^(0|-?[1-9][0-9]*|-0)\.[0-9]{2}$`)
	eachText("-.019+ ", 6, func(text string) {
		_, err := money.Parse(text)
		want := shape.MatchString(text) && text != "-0.00"
		if (err == api.OK) != want {
			t.Errorf("Parse(%q): error %d, want an amount: %v", text, err, want)
		}
	})
	for _, text := range []string{
		"", ".", "-", "-.", "0", "00", "100", ".50", "-.50", "1.", "1.0", "1.000", "01.00", "-01.00", "00.00", "-0.00",
		"+1.00", "--1.00", "- 1.00", "1.-5", "1.+5", "1..00", "1.0.0", "1,00", " 1.00", "1.00 ", "1.00\n", "1.00\x00",
		"1_0.00", "1.0_0", "0x1.00", "1e2.00", "١.00", "1.0\xff", "NaN", "1000.00.",
		"10000000.01", "-10000000.01", "99999999.99", "100000000.00", "-10000000.000",
		"92233720368547758.08", "184467440737095516.16", "184467440737095517.16", "99999999999999999999.00",
	} {
		wantNoAmount(t, text)
	}
}

// P1 and P3: arguments stay as they are, and results are new memory.
func TestCallsAreIndependent(t *testing.T) {
	l := []int{5, 3, 1}
	first, _ := money.Split(100, l)
	kept := slices.Clone(first)
	second, _ := money.Split(100, l)
	clear(first)
	third, _ := money.Split(100, l)
	if !slices.Equal(second, kept) || !slices.Equal(third, kept) {
		t.Errorf("Split changed its result: %v, %v, %v", kept, second, third)
	}
	wantSum(t, l, 9, api.OK)
	wantSum(t, l, 9, api.OK)
	if !slices.Equal(l, []int{5, 3, 1}) {
		t.Errorf("the argument became %v", l)
	}
	one := []int{7}
	same, _ := money.Split(7, one)
	same[0] = 0
	if one[0] != 7 {
		t.Error("a result shares memory with the weights")
	}
}

func wantSum(t *testing.T, l []int, want int, err api.Errno) {
	t.Helper()
	if got, e := money.Sum(l); got != want || e != err {
		t.Errorf("Sum(%v) = %d, %d, want %d, %d", l, got, e, want, err)
	}
}

func wantShare(t *testing.T, n int, r api.Ratio, want int, err api.Errno) {
	t.Helper()
	if got, e := money.Share(n, r); got != want || e != err {
		t.Errorf("Share(%d, %v) = %d, %d, want %d, %d", n, r, got, e, want, err)
	}
}

func wantSplit(t *testing.T, n int, weights, want []int) {
	t.Helper()
	if got, e := money.Split(n, weights); !slices.Equal(got, want) || e != api.OK {
		t.Errorf("Split(%d, %v) = %v, %d, want %v", n, weights, got, e, want)
	}
}

func wantNoSplit(t *testing.T, n int, weights []int) {
	t.Helper()
	if got, e := money.Split(n, weights); len(got) != 0 || e != api.ErrArg {
		t.Errorf("Split(%d, %v) = %v, %d, want ErrArg", n, weights, got, e)
	}
}

func wantNoAmount(t *testing.T, text string) {
	t.Helper()
	if got, e := money.Parse(text); got != 0 || e != api.ErrSyntax {
		t.Errorf("Parse(%q) = %d, %d, want ErrSyntax", text, got, e)
	}
}

// wantNearest checks that a share differs from n * Num / Den by less than a half, or by a half and is even.
func wantNearest(t *testing.T, n int, r api.Ratio, share int) {
	t.Helper()
	twice := new(big.Int).Mul(big.NewInt(int64(share)), big.NewInt(int64(r.Den)))
	twice.Sub(twice, new(big.Int).Mul(big.NewInt(int64(n)), big.NewInt(int64(r.Num))))
	twice.Abs(twice.Lsh(twice, 1))
	side := twice.Cmp(big.NewInt(int64(r.Den)))
	if side > 0 || side == 0 && share%2 != 0 {
		t.Errorf("Share(%d, %v) = %d is not the nearest", n, r, share)
	}
}

// wantExactParts checks that parts add up, that each differs from the exact one by less than a cent, and that a weight 0 gets nothing.
func wantExactParts(t *testing.T, n int, weights, parts []int) {
	t.Helper()
	if len(parts) != len(weights) {
		t.Fatalf("Split(%d, ..) has %d parts for %d weights", n, len(parts), len(weights))
	}
	total, sum := big.NewInt(0), 0
	for i, w := range weights {
		total.Add(total, big.NewInt(int64(w)))
		sum += parts[i]
	}
	if sum != n {
		t.Errorf("the parts of Split(%d, ..) add up to %d", n, sum)
	}
	for i, w := range weights {
		gap := new(big.Int).Mul(big.NewInt(int64(parts[i])), total)
		gap.Sub(gap, new(big.Int).Mul(big.NewInt(int64(n)), big.NewInt(int64(w))))
		if gap.CmpAbs(total) >= 0 || w == 0 && parts[i] != 0 {
			t.Errorf("Split(%d, ..): the part %d of the weight %d (index %d)", n, parts[i], w, i)
		}
	}
}

// plainSplit follows the words of the chapter one cent after the other.
func plainSplit(n int, weights []int) []int {
	if n < 0 {
		parts := plainSplit(-n, weights)
		for i := range parts {
			parts[i] = -parts[i]
		}
		return parts
	}
	total := 0
	for _, w := range weights {
		total += w
	}
	parts, rests, left := make([]int, len(weights)), make([]int, len(weights)), n
	for i, w := range weights {
		parts[i] = n * w / total
		rests[i] = n * w % total
		left -= parts[i]
	}
	for range left {
		best := 0
		for i := range rests {
			if rests[i] > rests[best] {
				best = i
			}
		}
		parts[best]++
		rests[best] = -1
	}
	return parts
}

func eachSmallShare(t *testing.T, visit func(n int, r api.Ratio, share int)) {
	t.Helper()
	for n := -40; n <= 40; n++ {
		for num := range 13 {
			for den := 1; den <= 12; den++ {
				r := api.Ratio{Num: num, Den: den}
				share, err := money.Share(n, r)
				if err != api.OK {
					t.Fatalf("Share(%d, %v): %d", n, r, err)
				}
				visit(n, r, share)
			}
		}
	}
}

func eachSmallSplit(t *testing.T, visit func(n int, weights, parts []int)) {
	t.Helper()
	for n := -12; n <= 12; n++ {
		for code := 1; code < 256; code++ {
			weights := []int{code & 3, code >> 2 & 3, code >> 4 & 3, code >> 6}
			parts, err := money.Split(n, weights)
			if err != api.OK {
				t.Fatalf("Split(%d, %v): %d", n, weights, err)
			}
			visit(n, weights, parts)
		}
	}
}

func eachOrder(l []int, visit func([]int)) {
	var exchange func(from int)
	order := slices.Clone(l)
	exchange = func(from int) {
		if from == len(order) {
			visit(order)
			return
		}
		for i := from; i < len(order); i++ {
			order[from], order[i] = order[i], order[from]
			exchange(from + 1)
			order[from], order[i] = order[i], order[from]
		}
	}
	exchange(0)
}

func eachText(letters string, most int, visit func(string)) {
	var extend func(text string)
	extend = func(text string) {
		visit(text)
		if len(text) == most {
			return
		}
		for _, c := range letters {
			extend(text + string(c))
		}
	}
	extend("")
}

func ramp(n, step int) []int {
	l := make([]int, n)
	for i := range l {
		l[i] = i * step
	}
	return l
}
