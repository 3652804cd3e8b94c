package lean_test

import (
	"math"
	"slices"
	"strconv"
	"strings"

	"armarium/api"
)

const prime = 65521

func modulo(x int64) int64 { return (x%prime + prime) % prime }

// times is (a + b i) times (c + d i), of parts modulo prime.
func times(a, b, c, d int64) (int64, int64) { return modulo(a*c - b*d), modulo(a*d + b*c) }

// reckon is the weight of n, from 1 to 5, for key, in whole numbers and by another road than the chapter's: from the
// last byte to the first one, each byte with the factor that all that comes behind it makes.
func reckon(n int, key string) int {
	a, b := int64(1), int64(0)
	for range 7 * n {
		a, b = times(a, b, 2, 1)
	}
	sum := int64(0)
	for k := len(key) - 1; k >= 0; k-- {
		sum = modulo(sum + (int64(key[k])+1)*a)
		a, b = times(a, b, 3, 5)
	}
	// A mark begins at 1i, and the real part of 1i times a + b i is -b.
	return int(modulo(sum - b))
}

// weighed is a key, and the weights of the nodes 1 to 5 for it.
type weighed struct {
	key string
	of  [6]int
}

// weight is the one of any number.
func (x weighed) weight(n int) int {
	if n < 1 || n > 5 {
		return -1
	}
	return x.of[n]
}

// weigh has each of keys with what it weighs.
func weigh(keys []string) []weighed {
	var all []weighed
	for _, key := range keys {
		x := weighed{key: key}
		for n := 1; n <= 5; n++ {
			x.of[n] = reckon(n, key)
		}
		all = append(all, x)
	}
	return all
}

// asked are those of r who may be picked: all of its list but New. (No test hands in a list with a 0 where New is 0.)
func asked(r api.Roster) []int {
	var l []int
	for _, n := range r.L {
		if n != r.New {
			l = append(l, n)
		}
	}
	return l
}

// wanted is who is to be picked of r for x: the others are each set against it.
func wanted(r api.Roster, x weighed) int {
	l := asked(r)
	for _, n := range l {
		if !slices.ContainsFunc(l, func(m int) bool {
			return x.weight(m) > x.weight(n) || x.weight(m) == x.weight(n) && m < n
		}) {
			return n
		}
	}
	return 0
}

// of is a roster.
func of(fresh int, l ...int) api.Roster { return api.Roster{Epoch: 3, L: l, New: fresh} }

// orders are all lists of k of the nodes 1 to 5, none twice.
func orders(k int) [][]int {
	if k == 0 {
		return [][]int{nil}
	}
	var all [][]int
	for _, l := range orders(k - 1) {
		for n := 1; n <= 5; n++ {
			if !slices.Contains(l, n) {
				all = append(all, slices.Concat(l, []int{n}))
			}
		}
	}
	return all
}

// allOrders are the orders of one to five nodes: 325.
func allOrders() [][]int {
	return slices.Concat(orders(1), orders(2), orders(3), orders(4), orders(5))
}

// pair is a key for which two nodes, a and b, weigh the same, and more than all others.
type pair struct {
	key  string
	a, b int
}

func pairs() []pair {
	return []pair{
		{"k231182", 1, 2}, {"k1189175", 1, 2}, {"k57214", 1, 3}, {"k98152", 1, 3}, {"k287516", 1, 4}, {"k368743", 1, 4},
		{"k122411", 1, 5}, {"k271757", 1, 5}, {"k165035", 2, 3}, {"k212296", 2, 3}, {"k26345", 2, 4}, {"k61149", 2, 4},
		{"k259487", 2, 5}, {"k387923", 2, 5}, {"k157982", 3, 4}, {"k190606", 3, 4}, {"k293172", 3, 5}, {"k850107", 3, 5},
		{"k201326", 4, 5}, {"k245973", 4, 5},
	}
}

// level is a key of the mark 0: all nodes weigh 0 for it.
const level = "yyaxjaa"

// edge is a key for which the node n weighs the least or the most that there is.
type edge struct {
	key     string
	n, want int
}

func edges() []edge {
	return []edge{
		{"k32168", 1, 0}, {"k65717", 1, 65520}, {"k68944", 2, 0}, {"k20032", 2, 65520}, {"k3427", 3, 0}, {"k5735", 3, 65520},
		{"k82792", 4, 0}, {"k115815", 4, 65520}, {"k23030", 5, 0}, {"k126457", 5, 65520},
	}
}

// few are some keys of each sort.
func few() []string {
	l := []string{
		"", "\x00", "\x00\x00", "\x00\x00\x00", "\x7f", "\x80", "\xff", "\xff\xff", "a", "b", "ab", "ba", "a/key", "a/key\x00", "\x00a/key",
		"schl\u00fcssel", "\u20ac", "\xe2\x82", "\xc3\x28", "\ufffd", strings.Repeat("k", 40), strings.Repeat("k", 41),
		strings.Repeat("\x00", 300), strings.Repeat("\xff", 300), strings.Repeat("a long key, ", 90), level,
	}
	for _, x := range pairs() {
		l = append(l, x.key)
	}
	for _, x := range edges() {
		l = append(l, x.key)
	}
	return l
}

// many are few, all keys of one byte, and 800 more.
func many() []string {
	l := few()
	for x := range 256 {
		l = append(l, string([]byte{byte(x)}))
	}
	for k := range 400 {
		l = append(l, "key/"+strconv.Itoa(k*k), string([]byte{byte(k * 7), byte(k), 0, byte(k / 3), 200}))
	}
	return l
}

// strangers are numbers of no node, and such as look like one where bits or a sign are lost.
func strangers() []int {
	return []int{
		-9, -6, -5, -4, -3, -2, -1, 0, 6, 7, 8, 9, 10, 255, 256, 257, 261, 1<<16 + 1, 1<<31 + 2, 1<<32 + 1, 1<<32 + 5, -1<<32 + 3, 1<<61 + 1,
		-1 << 61, math.MinInt, math.MinInt + 1, math.MinInt + 5, math.MaxInt, math.MaxInt - 1,
	}
}
