/- Keys: a child of a root, as the program makes it. -/
import Derived.Test.YtkifchjpgdmcoaaGreatDoorSdAll
namespace Go.Proofs.YtkifchjpgdmcoaaGreatDoor
open Go.RowKit
def labk (word : Bs) (n : Nat) : Bs := (tupRes [(textRes word).1, (textRes (dec n)).1]).1
def kidRes (root word : Bs) (n : Nat) : Bs × Nat := bRes 68 [] [root, labk word n]
def numRes (root word : Bs) (n : Int) : Bs × Nat := if n < 0 then ([], 2) else kidRes root word n.toNat
set_option maxHeartbeats 1000000 in
theorem kyc_any (root word : Bs) (n : Nat) (hw : word.length ≤ 20000) (hn : n ≤ 9223372036854775807) (w : World) (hp : Pw w) :
   Calls Tryz.prog 49 #[St root, St word, .int .i64 (n : Int)] w fun en w' => en = made (kidRes root word n) ∧ Below w.heap.size w w' := by
 have HP := hid hp
 have HT := hid (mktext_any word w hw hp)
 have HF : Hid (∀ W, Pw W → Calls Tryz.prog 47 #[.int .i64 (n : Int), .int .i64 10] W fun e w' => e = .returned (St (dec n)) ∧ Below W.heap.size W w') := hid (fun W h => format_any n hn W h)
 have HD : Hid (∀ W, Pw W → Calls Tryz.prog 73 #[St (dec n)] W fun en w' => en = made (textRes (dec n)) ∧ Below W.heap.size W w') := hid (fun W h => mktext_any (dec n) W (by have := dec_len n (by omega); omega) h)
 have HR : Hid (kidRes root word n = bRes 68 [] [root, (tupRes [(textRes word).1, (textRes (dec n)).1]).1]) := hid rfl
 clear hp hw hn
 rw [HR.out]
 clear HR
 generalize dec n = D at HF HD
 generalize textRes D = T2 at HD
 generalize textRes word = T1 at HT
 obtain ⟨t1, n1⟩ := T1
 obtain ⟨t2, n2⟩ := T2
 obtain ⟨U, hU⟩ : ∃ U, tupRes [t1, t2] = U := ⟨_, rfl⟩
 have HU := hid hU
 show Calls Tryz.prog 49 #[St root, St word, .int .i64 (n : Int)] w fun en w' => en = made (bRes 68 [] [root, (tupRes [t1, t2]).1]) ∧ Below w.heap.size w w'
 rw [hU]
 clear hU
 obtain ⟨u, n3⟩ := U
 go_enter Tryz.func49, Tryz.ntmps49
 go_wp2_with fail
 refine HT.out.mono ?_
 rintro e w1 ⟨rfl, hb1⟩
 have HB1 := hid hb1
 clear hb1 HT
 have HP1 := hid (HP.out.below HB1.out)
 go_wp2_with fail
 refine (HF.out _ HP1.out).mono ?_
 rintro e w2 ⟨rfl, hb2⟩
 have HB2 := hid (HB1.out.trans (hb2.mono HB1.out.size))
 clear hb2 HF HP1
 have HP2 := hid (HP.out.below HB2.out)
 go_wp2_with fail
 refine (HD.out _ HP2.out).mono ?_
 rintro e w3 ⟨rfl, hb3⟩
 have HB3 := hid (HB2.out.trans (hb3.mono HB2.out.size))
 clear hb3 HD HP2
 have HP3 := hid (HP.out.below HB3.out)
 have HB4 := hid (HB3.out.alloc HB3.out.size (.cells #[St t1, St t2] 22))
 have HP4 := hid (HP.out.below HB4.out)
 have HTU := hid (mktuple_any [t1, t2] _ _ (texts_two w3 t1 t2) (by simp) HP4.out)
 rw [HU.out] at HTU
 go_wp2_with fail
 refine HTU.out.mono ?_
 rintro e w4 ⟨rfl, hb4⟩
 have HB5 := hid (HB4.out.trans (hb4.mono HB4.out.size))
 clear hb4 HTU HB4 HP4
 go_wp2_with fail
 refine (child_any root u w4).mono ?_
 rintro e w5 ⟨rfl, hb5⟩
 have HB6 := hid (HB5.out.trans (hb5.mono HB5.out.size))
 clear hb5
 go_wp2_with fail
 go_ret2
 exact ⟨rfl, HB6.out⟩
set_option maxHeartbeats 1000000 in
theorem numd_any (root word : Bs) (n : Int) (hw : word.length ≤ 20000) (hn : n ≤ 9223372036854775807) (w : World) (hp : Pw w) :
   Calls Tryz.prog 48 #[St root, St word, .int .i64 n] w fun en w' => en = made (numRes root word n) ∧ Below w.heap.size w w' := by
 by_cases h0 : n < 0
 · have HR : Hid (numRes root word n = ([], 2)) := by apply hid; unfold numRes; rw [if_pos h0]
   go_enter Tryz.func48, Tryz.ntmps48
   go_wp2_with fail
   go_ret2
   exact ⟨by rw [HR.out]; rfl, Below.refl _ _⟩
 · obtain ⟨m, rfl⟩ : ∃ m : Nat, n = (m : Int) := ⟨n.toNat, by omega⟩
   have HR : Hid (numRes root word (m : Int) = kidRes root word m) := by apply hid; unfold numRes; rw [if_neg h0]; simp
   have HC := hid (kyc_any root word m hw (by omega) w hp)
   clear hp hw
   go_enter Tryz.func48, Tryz.ntmps48
   go_wp2_with fail
   refine HC.out.mono ?_
   rintro e w1 ⟨rfl, hb1⟩
   have HB1 := hid hb1
   clear hb1 HC
   go_wp2_with fail
   go_ret2
   exact ⟨by rw [HR.out]; rfl, HB1.out⟩
def wNode : Bs := [110, 111, 100, 101]
def wCoin : Bs := [99, 111, 105, 110]
def wChan : Bs := [99, 104, 97, 110, 110, 101, 108]
theorem node_any (root : Bs) (w : World) (hp : Pw w) : Calls Tryz.prog 35 #[St root] w fun en w' => en = made (kidRes root wNode 0) ∧ Below w.heap.size w w' := by
 have HC : Hid (Calls Tryz.prog 49 #[St root, .string { data := #[110, 111, 100, 101] }, .int .i64 0] w fun en w' => en = made (kidRes root wNode 0) ∧ Below w.heap.size w w') := hid (kyc_any root wNode 0 (by decide) (by decide) w hp)
 clear hp
 go_enter Tryz.func35, Tryz.ntmps35
 go_wp2_with fail
 refine HC.out.mono ?_
 rintro e w1 ⟨rfl, hb1⟩
 have HB1 := hid hb1
 clear hb1 HC
 go_wp2_with fail
 go_ret2
 exact ⟨rfl, HB1.out⟩
theorem coin_any (root : Bs) (n : Int) (hn : n ≤ 9223372036854775807) (w : World) (hp : Pw w) : Calls Tryz.prog 36 #[St root, .int .i64 n] w fun en w' => en = made (numRes root wCoin n) ∧ Below w.heap.size w w' := by
 have HC : Hid (Calls Tryz.prog 48 #[St root, .string { data := #[99, 111, 105, 110] }, .int .i64 n] w fun en w' => en = made (numRes root wCoin n) ∧ Below w.heap.size w w') := hid (numd_any root wCoin n (by decide) hn w hp)
 clear hp
 go_enter Tryz.func36, Tryz.ntmps36
 go_wp2_with fail
 refine HC.out.mono ?_
 rintro e w1 ⟨rfl, hb1⟩
 have HB1 := hid hb1
 clear hb1 HC
 go_wp2_with fail
 go_ret2
 exact ⟨rfl, HB1.out⟩
theorem bindk_any (a b : Bs) (w : World) : Calls Tryz.prog 9 #[St a, St b] w fun en w' => en = made (bRes 75 [] [a, b]) ∧ Below w.heap.size w w' := by
 go_enter Tryz.func9, Tryz.ntmps9
 go_wp2_with fail
 refine (bind_any a b w).mono ?_
 rintro e w1 ⟨rfl, hb1⟩
 have HB1 := hid hb1
 clear hb1
 go_wp2_with fail
 go_ret2
 exact ⟨rfl, HB1.out⟩
theorem revoke_any (a b : Bs) (w : World) : Calls Tryz.prog 8 #[St a, St b] w fun en w' => en = made (bRes 86 [] [a, b]) ∧ Below w.heap.size w w' := by
 go_enter Tryz.func8, Tryz.ntmps8
 go_wp2_with fail
 refine (join_any a b w).mono ?_
 rintro e w1 ⟨rfl, hb1⟩
 have HB1 := hid hb1
 clear hb1
 go_wp2_with fail
 go_ret2
 exact ⟨rfl, HB1.out⟩
theorem bel_alloc (w : World) (o : Obj) : Below w.heap.size w (w.alloc o) := (Below.refl _ w).alloc (Nat.le_refl _) o
structure Ke (w0 : World) (bx eb : Nat) (e : Nat) (w : World) : Prop where
 bel : Below w0.heap.size w0 w
 gx : w0.heap.size ≤ bx
 ge : w0.heap.size ≤ eb
 ne : bx ≠ eb
 box : w.heap[bx]? = some (.cells #[.pointer (some ⟨eb, 0, none⟩)] 58 (0, 0))
 var : w.heap[eb]? = some (.cells #[.int .i64 (e : Int)] 29 (0, 0))
theorem heap_lt {w : World} {b : Nat} {o : Obj} (h : w.heap[b]? = some o) : b < w.heap.size := by
 rcases Nat.lt_or_ge b w.heap.size with h' | h'
 · exact h'
 · rw [Array.getElem?_eq_none h'] at h; cases h
theorem Ke.below {w0 w w' : World} {bx eb e : Nat} (h : Ke w0 bx eb e w) (hb : Below w.heap.size w w') : Ke w0 bx eb e w' :=
 ⟨h.bel.trans (hb.mono h.bel.size), h.gx, h.ge, h.ne, (hb.block _ (heap_lt h.box)).trans h.box, (hb.block _ (heap_lt h.var)).trans h.var⟩
theorem Ke.set {w0 w : World} {bx eb e : Nat} (h : Ke w0 bx eb e w) (e' : Nat) : Ke w0 bx eb e' (w.setCell ⟨eb, 0, none⟩ (.int .i64 (e' : Int))) := by
 refine ⟨h.bel.setCell h.ge _, h.gx, h.ge, h.ne, ?_, ?_⟩
 · rw [Below.heap_setCell _ _ _ _ (by show bx ≠ eb; exact h.ne)]; exact h.box
 · rw [heap_setCell_same h.var]; rfl
def firstN (e e' : Nat) : Nat := if e = 0 then e' else e
theorem Ke.vcell {w0 w : World} {bx eb e : Nat} (h : Ke w0 bx eb e w) : w.cell? ⟨eb, 0, none⟩ = some (.int .i64 (e : Int)) := by rw [cell_of_heap h.var]; rfl
set_option maxHeartbeats 1000000 in
theorem keep_any {w0 w : World} {bx eb e : Nat} (h : Ke w0 bx eb e w) (x : Bs) (e' : Nat) :
   Calls Tryz.prog 55 #[St x, .int .i64 (e' : Int), .pointer (some ⟨bx, 0, none⟩)] w fun en w' => en = .returned (St x) ∧ Ke w0 bx eb (firstN e e') w' ∧ Frx w.heap.size eb w w' := by
 have h1 : w.cell? ⟨bx, 0, none⟩ = some (.pointer (some ⟨eb, 0, none⟩)) := by rw [cell_of_heap h.box]; rfl
 have h2 := h.vcell
 have h3 : w.frozen? ⟨eb, 0, none⟩ = false := frozen_of_heap h.var 0
 by_cases he : e = 0
 · subst he
   have HS : Hid (Ke w0 bx eb (firstN 0 e') (w.setCell ⟨eb, 0, none⟩ (.int .i64 (e' : Int)))) := hid (h.set e')
   clear h
   go_enter Tryz.func55, Tryz.ntmps55
   go_wp2_with fail
   go_ret
   exact ⟨rfl, HS.out, (Frx.refl _ _ _).setCell 0 _⟩
 · have hne : ((e : Int) == 0) = false := by simpa using he
   have hne2 : ¬ (e : Int) = 0 := by omega
   have HS : Hid (Ke w0 bx eb (firstN e e') w) := hid (by unfold firstN; rw [if_neg he]; exact h)
   clear h
   go_enter Tryz.func55, Tryz.ntmps55
   go_wp2_with fail
   go_ret
   exact ⟨rfl, HS.out, Frx.refl _ _ _⟩
theorem keeping_any (eb : Nat) (w : World) : Calls Tryz.prog 25 #[.pointer (some ⟨eb, 0, none⟩)] w fun en w' => en = .returned (.func (.func 55) #[] #[.pointer (some ⟨w.heap.size, 0, none⟩)]) ∧ w' = w.alloc (.cells #[.pointer (some ⟨eb, 0, none⟩)] 58) := by
 have hmf : ∀ (fn : Fn) (first cap : Array Value) (w : World), (Instr.makeFunc fn first cap).run Tryz.prog w = .ok (.func fn first cap) w := fun _ _ _ _ => rfl
 go_enter Tryz.func25, Tryz.ntmps25
 go_wp2_with fail
 go_ret
 exact ⟨rfl, rfl⟩
structure S6 where
 f : Bs
 r : Bs
 p : Bs
 l : Bs
 h : Bs
 s : Bs
def S6.v (s : S6) : Value := .agg #[St s.f, St s.r, St s.p, St s.l, St s.h, St s.s]
def pntRes (s : Bs) (n : Int) : Bs × Nat := if (secRes s (1048575 - n)).2 = 0 then pubRes (secRes s (1048575 - n)).1 else ([], (secRes s (1048575 - n)).2)
set_option maxHeartbeats 1000000 in
theorem reveal_any (s : S6) (n : Int) (h1 : -9223372036854775808 ≤ n) (h2 : n ≤ 9223372036854775807) (w : World) (hp : Pw w) :
   Calls Tryz.prog 22 #[s.v, .int .i64 n] w fun en w' => en = made (secRes s.s (1048575 - n)) ∧ Below w.heap.size w w' := by
 obtain ⟨f, r, p, l, h, s⟩ := s
 by_cases h0 : n < 0
 · have HR : Hid (secRes s (1048575 - n) = ([], 2)) := by apply hid; unfold secRes; rw [if_pos (by omega)]
   unfold S6.v
   go_enter Tryz.func22, Tryz.ntmps22
   go_wp2_with fail
   go_ret2
   exact ⟨by rw [HR.out]; rfl, bel_alloc w _⟩
 · by_cases h3 : 1048575 < n
   · have HR : Hid (secRes s (1048575 - n) = ([], 2)) := by apply hid; unfold secRes; rw [if_pos (by omega)]
     unfold S6.v
     go_enter Tryz.func22, Tryz.ntmps22
     go_wp2_with fail
     go_ret2
     exact ⟨by rw [HR.out]; rfl, bel_alloc w _⟩
   · have HB0 := hid (bel_alloc w (.cells #[St f, St r, St p, St l, St h, St s] 24))
     have HC := hid (secret_any s (1048575 - n) (w.alloc (.cells #[St f, St r, St p, St l, St h, St s] 24)) (hp.below HB0.out))
     clear hp
     unfold S6.v
     go_enter Tryz.func22, Tryz.ntmps22
     go_wp2_with fail
     refine HC.out.mono ?_
     rintro e w1 ⟨rfl, hb1⟩
     have HB1 := hid (HB0.out.trans (hb1.mono HB0.out.size))
     clear hb1 HC
     go_wp2_with fail
     go_ret2
     exact ⟨rfl, HB1.out⟩
set_option maxHeartbeats 1000000 in
theorem point_any (s : S6) (n : Int) (h1 : -9223372036854775808 ≤ n) (h2 : n ≤ 9223372036854775807) (w : World) (hp : Pw w) :
   Calls Tryz.prog 6 #[s.v, .int .i64 n] w fun en w' => en = made (pntRes s.s n) ∧ Below w.heap.size w w' := by
 obtain ⟨f, r, p, l, h, s⟩ := s
 have HB0 := hid (bel_alloc w (.cells #[St f, St r, St p, St l, St h, St s] 24))
 have HC := hid (reveal_any ⟨f, r, p, l, h, s⟩ n h1 h2 (w.alloc (.cells #[St f, St r, St p, St l, St h, St s] 24)) (hp.below HB0.out))
 unfold S6.v at HC
 have HR : Hid (pntRes s n = if (secRes s (1048575 - n)).2 = 0 then pubRes (secRes s (1048575 - n)).1 else ([], (secRes s (1048575 - n)).2)) := hid rfl
 rw [HR.out]
 clear hp h1 h2 HR
 dsimp only at HC
 generalize secRes s (1048575 - n) = R at HC
 obtain ⟨t, m⟩ := R
 dsimp only
 by_cases hm : m = 0
 · subst hm
   rw [if_pos rfl]
   unfold S6.v
   go_enter Tryz.func6, Tryz.ntmps6
   go_wp2_with fail
   refine HC.out.mono ?_
   rintro e w1 ⟨rfl, hb1⟩
   have HB1 := hid (HB0.out.trans (hb1.mono HB0.out.size))
   clear hb1 HC
   go_wp2_with fail
   refine (pubs_any t w1).mono ?_
   rintro e w2 ⟨rfl, hb2⟩
   have HB2 := hid (HB1.out.trans (hb2.mono HB1.out.size))
   clear hb2
   go_wp2_with fail
   go_ret2
   exact ⟨rfl, HB2.out⟩
 · rw [if_neg hm]
   have hm1 : ((m : Int) == 0) = false := by simpa using hm
   have hm2 : ¬ (m : Int) = 0 := by omega
   unfold S6.v
   go_enter Tryz.func6, Tryz.ntmps6
   go_wp2_with fail
   refine HC.out.mono ?_
   rintro e w1 ⟨rfl, hb1⟩
   have HB1 := hid (HB0.out.trans (hb1.mono HB0.out.size))
   clear hb1 HC
   go_wp2_with fail
   go_ret2
   exact ⟨rfl, HB1.out⟩
def pkRes (k : Bs) : Bs × Nat := if Tm.deep k ≠ 0 ∧ Tm.isPk k.head? = true then (k, 0) else ([], 10)
end Go.Proofs.YtkifchjpgdmcoaaGreatDoor
