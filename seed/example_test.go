package seed_test

import (
	"fmt"

	"sluiceway/api"
	"sluiceway/seed"
)

// Example is what README.md shows of the package, so that it stays true.
func Example() {
	x, _ := seed.Secret("n7;", 5)
	fmt.Println(x)
	a, _ := seed.Secret("n9;", api.Top)
	b, _ := seed.Secret("n9;", api.Top-1)
	s := seed.New()
	fmt.Println(s.Add(api.Top-1, b) == api.ErrArg)
	fmt.Println(s.Add(api.Top, a) == api.OK)
	fmt.Println(s.Add(api.Top-1, "n9;") == api.ErrSeed)
	fmt.Println(s.Add(api.Top-1, b) == api.OK)
	x, _ = s.Get(api.Top)
	fmt.Println(x == a)
	_, e := s.Get(api.Top - 2)
	fmt.Println(e == api.ErrNone)
	fmt.Println(s.Count(), s.Kept())
	c := s.Copy()
	fmt.Println(c.Add(api.Top-2, "n1;") == api.OK, c.Count(), s.Count())
	// Output:
	// DDn7;t1:2t1:0
	// true
	// true
	// true
	// true
	// true
	// true
	// 2 1
	// true 3 2
}

// Example_chapter is the chapter's table of examples.
func Example_chapter() {
	fmt.Println(seed.Secret("n7;", 0))
	fmt.Println(seed.Secret("n7;", 5))
	_, e := seed.Secret("n7;", 1048576)
	fmt.Println(e == api.ErrArg)

	x, _ := seed.Secret("n1;", 3)
	s, _ := seed.Secret("n9;", 1048575)
	m := seed.New()
	fmt.Println(m.Add(1048574, x) == api.ErrArg, m.Add(1048575, s) == api.OK, m.Add(1048575, s) == api.ErrArg)
	y, e := m.Get(1048575)
	fmt.Println(y == s, e == api.OK)
	y, e = m.Get(1048574)
	fmt.Println(y == "", e == api.ErrNone)
	fmt.Println(m.Count())

	y, _ = seed.Secret("n9;", 1048574)
	fmt.Println(m.Add(1048574, "n9;") == api.ErrSeed, m.Add(1048574, y) == api.OK, m.Kept())
	// Output:
	// n7; sluiceway: error 0
	// DDn7;t1:2t1:0 sluiceway: error 0
	// true
	// true true true
	// true true
	// true true
	// 1
	// true true 1
}
