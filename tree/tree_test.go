package tree_test

import (
	"encoding/binary"
	"fmt"
	"math"
	"slices"
	"strconv"
	"strings"
	"testing"

	"foyer/api"
	"foyer/digest"
	"foyer/tree"
)

// lists are of all sizes up to 40, and some beyond.
func lists() [][]string {
	all := [][]string{
		{"none"}, {"leaf", "node"}, {"", ""}, {"", "", ""}, {"a", "a", "a", "a", "a"}, {"b", "a", "\xff\x00", "\u00fcnser", "4:node", "a longer text, of more than one block"},
		{strings.Repeat("0", 1000), "16:", "0123456789abcdef"}, texts(63), texts(64), texts(65), texts(100), texts(257),
	}
	for n := range 41 {
		all = append(all, texts(n))
	}
	return all
}

func texts(n int) []string {
	var list []string
	for i := range n {
		list = append(list, fmt.Sprint("text ", i))
	}
	return list
}

func TestChapterExamples(t *testing.T) {
	a, b, c := plainLeaf("a"), plainLeaf("b"), plainLeaf("c")
	ab := plainNode(a, b)
	wantRoot(t, []string{"a"}, a)
	wantPath(t, []string{"a"}, 0)
	list := []string{"a", "b", "c"}
	wantRoot(t, list, plainNode(ab, c))
	wantPath(t, list, 2, ab)
	wantPath(t, list, 0, b, c)
	wantPath(t, list, 1, a, c)
}

// P4.1, D1: roots that another program computed by the words of the chapters.
func TestRootsOfKnownLists(t *testing.T) {
	wantRoot(t, nil, "b58bd1ab405b8fa2")
	wantRoot(t, []string{}, "b58bd1ab405b8fa2")
	wantRoot(t, []string{""}, "8ffd36b1eb944d8a")
	wantRoot(t, []string{"a"}, "aceb065446a027e5")
	wantRoot(t, []string{"leaf"}, "c4636f67245cd531")
	wantRoot(t, []string{"none"}, "ea294c4ccd356db2")
	wantRoot(t, []string{"", ""}, "a55bd38eafa1dc58")
	wantRoot(t, []string{"a", "b"}, "3d117ef1b492f1b1")
	wantRoot(t, []string{"b", "a"}, "6f5d186ef1ff571c")
	wantRoot(t, []string{"a", "b", "c"}, "f08e847dcea526b1")
	wantRoot(t, []string{"a", "b", "c", "d"}, "de7aa2a2d46da37b")
	wantRoot(t, []string{"a", "b", "c", "d", "e"}, "f24add84b9aa32a2")
	wantRoot(t, []string{"\xff\x00", "a longer text, of more than one block", "\u00fcnser"}, "43ff209943c6f539")
	for n, root := range map[int]string{6: "1eae59a8f1080589", 7: "3755a6d3e05d7390", 13: "84ad62b49fc9bf07", 1000: "eb09be3b71fbd8e0", 4000: "0e955daaa37a6eef"} {
		wantRoot(t, texts(n), root)
	}
}

// P4.1, D1: paths that another program computed.
func TestPathsOfKnownLists(t *testing.T) {
	five := []string{"a", "b", "c", "d", "e"}
	wantPath(t, five, 0, "7aa37dfe34bfc07c", "7c14fa1184175c30", "c196cdac2e03cf61")
	wantPath(t, five, 1, "aceb065446a027e5", "7c14fa1184175c30", "c196cdac2e03cf61")
	wantPath(t, five, 2, "c22d67df9bd9797b", "3d117ef1b492f1b1", "c196cdac2e03cf61")
	wantPath(t, five, 3, "24c416c2f2598421", "3d117ef1b492f1b1", "c196cdac2e03cf61")
	wantPath(t, five, 4, "de7aa2a2d46da37b")
	wantPath(t, texts(13), 0, "4e84f15b62492c62", "f4baffff4107800f", "9dac7d3eb2c531f4", "1941e23dc8a0f623")
	wantPath(t, texts(13), 7, "bf186522b3553b73", "70180b43d19f0a4a", "7b8883746e1ca623", "1941e23dc8a0f623")
	wantPath(t, texts(13), 8, "b795b170488f69c4", "78a9b4403b5dafb3", "63a06429939ceb45", "2f8752493a32083a")
	wantPath(t, texts(13), 11, "dd1cfab68d510662", "25329693fb1d0cca", "63a06429939ceb45", "2f8752493a32083a")
	wantPath(t, texts(13), 12, "7694d27c540c5132", "2f8752493a32083a")
}

// P4.1, D1.
func TestRootAndPathFollowTheLevels(t *testing.T) {
	for _, list := range lists() {
		levels := plainLevels(list)
		wantRoot(t, list, levels[len(levels)-1][0])
		for i := range list {
			wantPath(t, list, i, plainPath(levels, i)...)
		}
	}
}

// P4.1, D1.
func TestPathRefusesElementsThatDoNotExist(t *testing.T) {
	for _, list := range lists() {
		n := len(list)
		for _, i := range []int{-1, -2, -n, n, n + 1, 2 * n, n - 1 + 1<<32, math.MinInt, math.MinInt + 1, math.MaxInt} {
			if 0 <= i && i < n {
				continue
			}
			if path, err := tree.Path(list, i); err != api.ErrArg || len(path) != 0 {
				t.Errorf("Path of element %d of %d is %q, %d", i, n, path, err)
			}
		}
	}
	if path, err := tree.Path(nil, 0); err != api.ErrArg || len(path) != 0 {
		t.Errorf("Path of element 0 of nil is %q, %d", path, err)
	}
}

// P4.1, D2: also for sizes that no list can have, and for paths whose elements are no digests.
func TestCheckFollowsThePathsOfAnySize(t *testing.T) {
	elements := []string{"", "x", "0123456789abcdef", "ABCDEF", strings.Repeat("16:", 50), digest.Sum("y"), "\xff\x00"}
	sizes := []int{1, 2, 3, 4, 5, 6, 7, 8, 9, 11, 1000, 1 << 20, 1<<20 + 1, 1<<31 - 1, 1 << 31, 1 << 62, 1<<62 + 1, math.MaxInt - 1, math.MaxInt}
	for _, n := range sizes {
		for _, i := range []int{0, 1, 2, 3, 4, 5, 6, 7, n / 3, n / 2, n - 3, n - 2, n - 1} {
			if i < 0 || i >= n {
				continue
			}
			for _, leaf := range []string{"", "a", "a longer text, of more than one block"} {
				path := make([]string, plainLength(n, i))
				for k := range path {
					path[k] = elements[(n%7+i%7+k)%7]
				}
				root := plainReached(n, i, leaf, path)
				wantCheck(t, root, n, i, leaf, path, true)
				wantCheck(t, root, n, i, leaf+"x", path, false)
				wantCheck(t, digest.Sum(root), n, i, leaf, path, false)
				wantCheck(t, root, n, i, leaf, append(path, ""), false)
				wantCheck(t, root, n, i, leaf, append(path, root), false)
				if len(path) > 0 {
					wantCheck(t, root, n, i, leaf, path[:len(path)-1], false)
				}
			}
		}
	}
}

// P4.1, D2: the way is that of a list with the size, whatever list has the root.
func TestCheckGoesByTheSize(t *testing.T) {
	a, b, c := plainLeaf("a"), plainLeaf("b"), plainLeaf("c")
	root := tree.Root([]string{"a", "b", "c"})
	wantCheck(t, root, 2, 1, "c", []string{plainNode(a, b)}, true)
	wantCheck(t, root, 2, 0, "c", []string{plainNode(a, b)}, false)
	wantCheck(t, root, 4, 0, "a", []string{b, c}, true)
	wantCheck(t, root, 4, 2, "c", []string{plainNode(a, b)}, false)
	wantCheck(t, root, 5, 4, "c", []string{plainNode(a, b)}, true)
	wantCheck(t, root, 1, 0, "c", []string{plainNode(a, b)}, false)
	wantCheck(t, a, 1, 0, "a", nil, true)
	wantCheck(t, a, 1, 0, "a", []string{}, true)
}

// P4.2.
func TestPathsProveTheirTexts(t *testing.T) {
	for _, list := range append(lists(), texts(513)) {
		root := tree.Root(list)
		for i, text := range list {
			path, err := tree.Path(list, i)
			if err != api.OK {
				t.Fatalf("Path of element %d of %d: %d", i, len(list), err)
			}
			wantCheck(t, root, len(list), i, text, path, true)
		}
	}
}

// P4.3: also where equal texts have equal paths.
func TestPathsProveNoOtherTexts(t *testing.T) {
	for _, list := range lists() {
		root, levels := tree.Root(list), plainLevels(list)
		for i, text := range list {
			path := mustPath(t, list, i)
			others := []string{"", " ", text + " ", text + "\x00", " " + text, strings.ToUpper(text) + "x", plainLeaf(text), root, "leaf", "4:leaf"}
			for _, other := range append(others, list...) {
				wantCheck(t, root, len(list), i, other, path, other == text)
			}
			for k, other := range list {
				same := slices.Equal(path, plainPath(levels, k))
				wantCheck(t, root, len(list), k, text, path, same && other == text)
				wantCheck(t, root, len(list), k, other, path, same)
			}
		}
	}
}

// P4.3.
func TestChangedPathsProveNothing(t *testing.T) {
	for _, list := range lists() {
		root := tree.Root(list)
		for i, text := range list {
			path := mustPath(t, list, i)
			for k, element := range path {
				others := []string{"", element[:15], element + "0", " " + element, strings.ToUpper("abcdef") + element[6:], digest.Sum(element), root, plainLeaf(text)}
				for m := range element {
					others = append(others, element[:m]+nextDigit(element[m])+element[m+1:])
				}
				for _, other := range append(others, path...) {
					changed := slices.Clone(path)
					changed[k] = other
					wantCheck(t, root, len(list), i, text, changed, other == element)
				}
			}
		}
	}
}

// P4.3: nobody can take a node for a leaf, nor an inner level for the lowest one.
func TestNodesAreNoLeaves(t *testing.T) {
	for _, list := range lists() {
		levels := plainLevels(list)
		root := tree.Root(list)
		for h := 1; h < len(levels); h++ {
			level := levels[h]
			if tree.Root(level) == root {
				t.Errorf("%d nodes of %d texts have the root of the texts", len(level), len(list))
			}
			for i, node := range level {
				path := plainPath(levels[h:], i)
				wantCheck(t, root, len(level), i, node, path, false)
				wantCheck(t, root, len(list), i, node, path, false)
				if pair := levels[h-1][2*i:]; len(pair) > 1 {
					wantCheck(t, root, len(level), i, pair[0]+pair[1], path, false)
					wantCheck(t, root, len(level), i, fmt.Sprintf("16:%s16:%s", pair[0], pair[1]), path, false)
				}
			}
		}
	}
}

// P4.3: another text is proved if its leaf is shown to have the same digest.
func TestTextsWithOneDigestAreProved(t *testing.T) {
	for _, list := range lists() {
		root := tree.Root(list)
		for i, text := range list {
			path := mustPath(t, list, i)
			other := otherLeaf(text)
			wantCollision(t, []string{"leaf", text}, []string{"leaf", other})
			wantCheck(t, root, len(list), i, other, path, true)
		}
	}
}

// P4.3: another path proves a text, or another text, if two nodes are shown to have the same digest.
func TestPathsWithOneDigestProve(t *testing.T) {
	for _, list := range lists() {
		root, levels := tree.Root(list), plainLevels(list)
		for i, text := range list {
			path := mustPath(t, list, i)
			for h := range len(levels) - 1 {
				at := i >> h
				if at^1 >= len(levels[h]) {
					continue
				}
				for _, changed := range []string{text, text + ", changed"} {
					own, used := plainClimb(len(list), i, changed, path, h)
					beside := besideFor(at, own, levels[h+1][at/2])
					pair := []string{"node", own, beside}
					if at%2 == 1 {
						pair = []string{"node", beside, own}
					}
					wantCollision(t, []string{"node", levels[h][at&^1], levels[h][at|1]}, pair)
					other := slices.Clone(path)
					other[used] = beside
					wantCheck(t, root, len(list), i, changed, other, true)
				}
			}
		}
	}
}

// P4.4.
func TestLengthsOfPaths(t *testing.T) {
	for n := 1; n <= 70; n++ {
		wantLengths(t, texts(n))
	}
	wantLengths(t, texts(128))
	wantLengths(t, texts(129))
	wantLengths(t, texts(300))
}

// P4.5.
func TestDifferentListsHaveDifferentRoots(t *testing.T) {
	for n := 1; n <= 5; n++ {
		seen := map[string][]string{}
		eachList(n, []string{"", "a", "b", "aa", "leaf"}, func(list []string) {
			root := tree.Root(list)
			if other := seen[root]; other != nil {
				t.Errorf("%q and %q have the root %s", list, other, root)
			}
			seen[root] = slices.Clone(list)
		})
	}
	for _, list := range lists() {
		root := tree.Root(list)
		for i, text := range list {
			changed := slices.Clone(list)
			changed[i] = text + "x"
			if tree.Root(changed) == root {
				t.Errorf("%q and %q have the root %s", list, changed, root)
			}
			if changed = append(slices.Clone(list[:i]), list[i+1:]...); tree.Root(changed) == root {
				t.Errorf("%q and %q have the root %s", list, changed, root)
			}
		}
	}
}

// P4.5: two lists whose leaves are shown to have the same digests have the same root.
func TestListsWithOneDigestHaveOneRoot(t *testing.T) {
	for _, list := range lists() {
		var others []string
		for _, text := range list {
			others = append(others, otherLeaf(text))
			wantCollision(t, []string{"leaf", text}, []string{"leaf", others[len(others)-1]})
		}
		wantRoot(t, others, tree.Root(list))
	}
}

// P4.6.
func TestRootsOfParts(t *testing.T) {
	for power := 1; power <= 64; power *= 2 {
		for second := 1; second <= power; second++ {
			list := texts(power + second)
			wantRoot(t, list, plainNode(tree.Root(list[:power]), tree.Root(list[power:])))
		}
	}
	list := texts(2048)
	wantRoot(t, list, plainNode(tree.Root(list[:1024]), tree.Root(list[1024:])))
	wantRoot(t, list[:1025], plainNode(tree.Root(list[:1024]), plainLeaf("text 1024")))
}

// P4.7: also where what a part of the path leads to is the root, or what one more element does.
func TestPathsOfOtherLengthsProveNothing(t *testing.T) {
	for _, list := range lists() {
		n, root := len(list), tree.Root(list)
		for i, text := range list {
			path := mustPath(t, list, i)
			for _, more := range []string{"", root, plainLeaf(text), plainLeaf("x")} {
				wantCheck(t, root, n, i, text, append(slices.Clone(path), more), false)
				wantCheck(t, root, n, i, text, append([]string{more}, path...), false)
				wantCheck(t, plainNode(root, more), n, i, text, append(slices.Clone(path), more), false)
				wantCheck(t, plainNode(more, root), n, i, text, append(slices.Clone(path), more), false)
			}
			wantCheck(t, root, n, i, text, append(slices.Clone(path), path...), n == 1)
			wantCheck(t, root, n, i, text, make([]string, 1000), false)
			for k := range path {
				wantCheck(t, root, n, i, text, path[:k], false)
				wantCheck(t, root, n, i, text, path[k+1:], false)
			}
			for h := range len(plainLevels(list)) - 1 {
				reached, used := plainClimb(n, i, text, path, h)
				wantCheck(t, reached, n, i, text, path[:used], false)
			}
		}
	}
}

// P4.7.
func TestNothingIsProvedForElementsThatDoNotExist(t *testing.T) {
	for _, list := range lists() {
		n, root := len(list), tree.Root(list)
		paths := [][]string{nil, {""}, {root}, {root, root}}
		for i := range list {
			paths = append(paths, mustPath(t, list, i))
		}
		for k, path := range paths {
			text := ""
			if k >= 4 {
				text = list[k-4]
			}
			for _, i := range []int{-1, -2, -n - 1, n, n + 1, 2*n + 1, n + 1<<32, math.MinInt, math.MaxInt} {
				wantCheck(t, root, n, i, text, path, false)
			}
			for _, none := range []int{0, -1, -n - 1, math.MinInt} {
				for _, i := range []int{0, -1, 1, none, none - 1, none + 1, math.MinInt, math.MaxInt} {
					wantCheck(t, root, none, i, text, path, false)
				}
			}
		}
	}
	wantCheck(t, tree.Root(nil), 0, 0, "", nil, false)
	wantCheck(t, tree.Root(nil), 0, 0, "none", nil, false)
	wantCheck(t, tree.Root(nil), 1, 0, "none", nil, false)
	wantCheck(t, "", 0, 0, "", nil, false)
	wantCheck(t, "", 1, 0, "", nil, false)
}

// P4.1, D2.
func TestCheckRefusesOtherTextsAsRoots(t *testing.T) {
	list := texts(7)
	root := tree.Root(list)
	for i, text := range list {
		path := mustPath(t, list, i)
		for _, other := range []string{"", "a", root[:15], root + "0", " " + root, root + "\n", strings.ToUpper(root), digest.Sum(root), tree.Root(list[:6]), plainLeaf(text)} {
			wantCheck(t, other, len(list), i, text, path, false)
		}
		for k := range root {
			wantCheck(t, root[:k]+nextDigit(root[k])+root[k+1:], len(list), i, text, path, false)
		}
	}
}

// P1 and P3: arguments stay as they are, results are new memory, and earlier calls do not matter.
func TestCallsAreIndependent(t *testing.T) {
	// More capacity than elements: a call that appended to an argument would write behind it.
	list := append(make([]string, 0, 20), texts(7)...)
	behind := list[:20]
	kept := slices.Clone(behind)
	root, path := tree.Root(list), mustPath(t, list, 3)
	for n := range 20 {
		tree.Root(texts(n))
	}
	if !slices.Equal(behind, kept) {
		t.Errorf("the list became %q", behind)
	}
	wantRoot(t, list, root)
	wantPath(t, list, 3, path...)

	wantCheck(t, root, 7, 3, list[3], path, true)
	wantPath(t, list, 3, path...)
	wantCheck(t, root, 7, 3, list[3], path, true)
	again := mustPath(t, list, 3)
	clear(path)
	wantPath(t, list, 3, again...)
	clear(list)
	wantRoot(t, texts(7), root)
	wantCheck(t, root, 7, 3, "text 3", again, true)
}

func wantRoot(t *testing.T, list []string, want string) {
	t.Helper()
	if got := tree.Root(list); got != want {
		t.Errorf("Root(%q) = %q, want %q", list, got, want)
	}
}

func wantPath(t *testing.T, list []string, i int, want ...string) {
	t.Helper()
	if got := mustPath(t, list, i); !slices.Equal(got, want) {
		t.Errorf("Path(%q, %d) = %q, want %q", list, i, got, want)
	}
}

func mustPath(t *testing.T, list []string, i int) []string {
	t.Helper()
	path, err := tree.Path(list, i)
	if err != api.OK {
		t.Fatalf("Path(%q, %d): %d", list, i, err)
	}
	return path
}

func wantCheck(t *testing.T, root string, n, i int, leaf string, path []string, want bool) {
	t.Helper()
	if got := tree.Check(root, n, i, leaf, path); got != want {
		t.Errorf("Check(%q, %d, %d, %q, %q) = %v", root, n, i, leaf, path, got)
	}
}

// wantLengths counts by the words of the promise.
func wantLengths(t *testing.T, list []string) {
	t.Helper()
	halvings := 0
	for n := len(list); n > 1; n = (n + 1) / 2 {
		halvings++
	}
	levels := plainLevels(list)
	for i := range list {
		length, alone := len(mustPath(t, list, i)), false
		for h, level := range levels[:len(levels)-1] {
			alone = alone || i>>h == len(level)-1 && len(level)%2 == 1
		}
		if length > halvings || (length < halvings) != alone {
			t.Errorf("the path of element %d of %d has %d elements, of %d halvings", i, len(list), length, halvings)
		}
	}
}

// wantCollision checks that two different lists with one digest are shown.
func wantCollision(t *testing.T, list, other []string) {
	t.Helper()
	if slices.Equal(list, other) || digest.List(list) != digest.List(other) {
		t.Fatalf("%q and %q are no different lists with one digest", list, other)
	}
}

// eachList visits all lists of n of some texts.
func eachList(n int, some []string, visit func([]string)) {
	list := make([]string, n)
	var fill func(i int)
	fill = func(i int) {
		if i == n {
			visit(list)
			return
		}
		for _, text := range some {
			list[i] = text
			fill(i + 1)
		}
	}
	fill(0)
}

// The plain functions follow the words of the chapter on their own: they write the joined texts themselves.
func plainLeaf(text string) string { return digest.Sum(fmt.Sprintf("4:leaf%d:%s", len(text), text)) }

func plainNode(a, b string) string {
	return digest.Sum(fmt.Sprintf("4:node%d:%s%d:%s", len(a), a, len(b), b))
}

func plainLevels(list []string) [][]string {
	if len(list) == 0 {
		return [][]string{{digest.Sum("4:none")}}
	}
	var level []string
	for _, text := range list {
		level = append(level, plainLeaf(text))
	}
	levels := [][]string{level}
	for len(level) > 1 {
		var higher []string
		for k := 0; k < len(level); k += 2 {
			if k+1 < len(level) {
				higher = append(higher, plainNode(level[k], level[k+1]))
			} else {
				higher = append(higher, level[k])
			}
		}
		levels, level = append(levels, higher), higher
	}
	return levels
}

func plainPath(levels [][]string, i int) []string {
	var path []string
	for _, level := range levels[:len(levels)-1] {
		if i%2 == 1 {
			path = append(path, level[i-1])
		} else if i+1 < len(level) {
			path = append(path, level[i+1])
		}
		i /= 2
	}
	return path
}

// plainLength returns how many elements the path of an element has.
func plainLength(n, i int) int {
	length := 0
	for last := n - 1; last > 0; i, last = i/2, last/2 {
		if i%2 == 1 || i < last {
			length++
		}
	}
	return length
}

// plainReached returns the digest that a path leads to.
func plainReached(n, i int, leaf string, path []string) string {
	reached, _ := plainClimb(n, i, leaf, path, math.MaxInt)
	return reached
}

// plainClimb returns the digest that a path leads to when it went up by some levels, and how many of its elements were used.
func plainClimb(n, i int, leaf string, path []string, levels int) (string, int) {
	reached, used := plainLeaf(leaf), 0
	for last := n - 1; last > 0 && levels > 0; i, last, levels = i/2, last/2, levels-1 {
		if i%2 == 1 {
			reached = plainNode(path[used], reached)
		} else if i < last {
			reached = plainNode(reached, path[used])
		} else {
			continue
		}
		used++
	}
	return reached, used
}

func nextDigit(c byte) string {
	const digits = "0123456789abcdef"
	return string(digits[(strings.IndexByte(digits, c)+1)%16])
}

// otherLeaf returns another text whose leaf has the digest of that of a text.
func otherLeaf(text string) string {
	return "another" + between("4:leaf15:another", "", plainLeaf(text))
}

// besideFor returns a text that leads, joined with the digest i of a level, to a node; no element of a path has its size.
func besideFor(i int, own, node string) string {
	if i%2 == 1 {
		return between("4:node8:", fmt.Sprintf("16:%s", own), node)
	}
	// 32 bytes stand before the last block.
	return "fill" + between(fmt.Sprintf("4:node16:%s12:fill", own), "", node)
}

// between returns the 8 bytes that stand between two texts if all of it has a digest: each step of layer 2 can be undone. The first text has a multiple of 8 bytes.
func between(before, after, want string) string {
	if len(before)%8 != 0 {
		panic("no whole blocks: " + before)
	}
	state := uint64(7046029254386353131)
	for ; len(before) > 0; before = before[8:] {
		state = mix(state ^ binary.LittleEndian.Uint64([]byte(before)))
	}
	padded := append([]byte(after), 1)
	for len(padded)%8 != 0 {
		padded = append(padded, 0)
	}
	last, err := strconv.ParseUint(want, 16, 64)
	if err != nil {
		panic(err)
	}
	for ; len(padded) > 0; padded = padded[:len(padded)-8] {
		last = undoMix(last) ^ binary.LittleEndian.Uint64(padded[len(padded)-8:])
	}
	return string(binary.LittleEndian.AppendUint64(nil, undoMix(last)^state))
}

func mix(x uint64) uint64 {
	x ^= x >> 32
	x *= 11400714819323198485
	x ^= x >> 29
	x *= 13787848793156543929
	return x ^ x>>32
}

func undoMix(x uint64) uint64 {
	x ^= x >> 32
	x *= inverse(13787848793156543929)
	x ^= x>>29 ^ x>>58
	x *= inverse(11400714819323198485)
	return x ^ x>>32
}

// inverse returns the number by which an odd one is 1 modulo 2^64; each round doubles the bits that are right.
func inverse(odd uint64) uint64 {
	x := odd
	for range 6 {
		x *= 2 - odd*x
	}
	return x
}
