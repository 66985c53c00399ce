package keys_test

import (
	"fmt"

	"sluiceway/api"
	"sluiceway/keys"
	"sluiceway/term"
)

// Example is what README.md shows of the package, so that it stays true.
func Example() {
	a, _ := keys.Channel("n1;", 2)
	b, _ := keys.Channel("n2;", 0)
	fmt.Println(a.Pay)
	pa, _ := keys.Public(a)
	pb, _ := keys.Public(b)
	point, _ := keys.Point(a, 3)
	set, _ := keys.Set(pa, pb, point)
	k, _ := keys.Bind(a.Later, point)
	p, _ := term.Pub(k)
	fmt.Println(p == set.Later)
	secret, _ := keys.Reveal(a, 3)
	k, _ = keys.Revoke(b.Rev, secret)
	p, _ = term.Pub(k)
	fmt.Println(p == set.Rev)
	_, e := keys.Set(pa, pb, secret)
	fmt.Println(e == api.ErrTerm)
	n, _ := keys.Node("n1;")
	fmt.Println(n)
	c, _ := keys.Coin("n1;", 7)
	fmt.Println(c)
	_, e = keys.Coin("n1;", -1)
	fmt.Println(e == api.ErrArg)
	// Output:
	// DDn1;T2:t7:channelt1:2T2:t3:payt1:0
	// true
	// true
	// true
	// Dn1;T2:t4:nodet1:0
	// Dn1;T2:t4:coint1:7
	// true
}

// Example_chapter is the chapter's table of examples.
func Example_chapter() {
	fmt.Println(keys.Node("n1;"))
	fmt.Println(keys.Coin("n1;", 7))
	s, e := keys.Channel("n1;", 2)
	fmt.Println(s.Pay, e)
	k, _ := keys.Revoke("n1;", "n2;")
	fmt.Println(k)
	fmt.Println(term.Pub(k))
	fmt.Println(term.Joint("Pn1;", "Pn2;"))
	_, e = keys.Coin("n1;", -1)
	fmt.Println(e == api.ErrArg)
	_, e = keys.Reveal(s, 1048576)
	fmt.Println(e == api.ErrArg)
	_, e = keys.Node("x")
	fmt.Println(e == api.ErrTerm)
	// Output:
	// Dn1;T2:t4:nodet1:0 sluiceway: error 0
	// Dn1;T2:t4:coint1:7 sluiceway: error 0
	// DDn1;T2:t7:channelt1:2T2:t3:payt1:0 sluiceway: error 0
	// Vn1;n2;
	// WPn1;Pn2; sluiceway: error 0
	// WPn1;Pn2; sluiceway: error 0
	// true
	// true
	// true
}
