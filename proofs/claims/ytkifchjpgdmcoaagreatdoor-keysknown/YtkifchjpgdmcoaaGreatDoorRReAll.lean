import Derived.Test.YtkifchjpgdmcoaaGreatDoorRkAll
import Derived.Test.YtkifchjpgdmcoaaGreatDoorOpen
/- What the document's reading of a term does. -/
namespace Go.Proofs.YtkifchjpgdmcoaaGreatDoor
open Go.RowKit
def Cuts (s : ByteArray) (ps : List Nat) (ks : List Bs) : Prop :=
 ps.length = ks.length + 1 ∧ (∀ i, i < ks.length → ps.getD i 0 < ps.getD (i + 1) 0 ∧ ks.getD i [] = (rest s (ps.getD i 0)).take (ps.getD (i + 1) 0 - ps.getD i 0)) ∧ (∀ i, i < ps.length → ps.getD i 0 ≤ s.size)
abbrev ints (ps : List Nat) : List Value := ps.map (fun p : Nat => Value.int .i64 (p : Int))
theorem own_ints {w : World} {base : Nat} {kids : Value} {ps : List Nat} (h : w.ownsRow base 3 1 kids ps.length (ints ps)) (hp : ps ≠ []) :
   ∃ g kc, kids = .slice (some ⟨g, 0, none⟩) ps.length kc ∧ g < w.heap.size ∧ ∀ i, i < ps.length → w.cell? ⟨g, i, none⟩ = some (.int .i64 ((ps.getD i 0 : Nat) : Int)) := by
 rcases h.2 with ⟨h1, h0⟩ | ⟨g, cap, cur, hv, hb, hg, hc1, hc2, hc3, hc4⟩
 · exact absurd (List.eq_nil_of_length_eq_zero h0) hp
 · have hgs : g < w.heap.size := by
     apply Classical.byContradiction
     intro hn
     rw [Array.getElem?_eq_none (by omega)] at hg
     cases hg
   refine ⟨g, cap, hv, hgs, fun i hi => ?_⟩
   have e : (cur.toList.take (ps.length * 1))[i]? = some (.int .i64 ((ps.getD i 0 : Nat) : Int)) := by rw [hc4]; simp [hi]
   rw [Nat.mul_one, List.getElem?_take_of_lt hi, Array.getElem?_toList] at e
   rw [cell_of_heap hg]
   exact e
theorem cut_head {s : ByteArray} {p q : Nat} (h : p < q) (hq : q ≤ s.size) : ((rest s p).take (q - p)).head? = some (s[p]'(by omega)) := by
 rw [rest_cons (by omega), show q - p = (q - p - 1) + 1 by omega]
 rfl
theorem fits_all (s : ByteArray) (a : Nat) (ha : a < s.size) (hs : s.size ≤ 20000) (E D N F : Int) (ps : List Nat) (ks : List Bs) (kv : Value) (base : Nat) (w : World) (hcut : Cuts s ps ks) (hown : w.ownsRow base 3 1 kv ps.length (ints ps))
   (h1 : s[a] = 80 → ks.length = 1) (h2 : s[a] = 88 ∨ s[a] = 87 ∨ s[a] = 76 → ks.length = 2) :
   Calls Tryz.prog 110 #[.string s, .int .i64 (a : Int), cutV E D N F kv] w fun en w' => en = .returned (.bool (Tm.fitB s[a] ks)) ∧ Below w.heap.size w w' := by
 obtain ⟨l1, l2, l3⟩ := hcut
 have hne : ps ≠ [] := by intro e; rw [e] at l1; simp at l1
 obtain ⟨g, kc, rfl, hg, hc⟩ := own_ints hown hne
 by_cases c80 : s[a] = 80
 · have hk := h1 c80
   match ks, hk with
   | [p], _ =>
     have q0 := l2 0 (by simp)
     have z1 := l3 1 (by rw [l1]; simp)
     have hlt : ps.getD 0 0 < s.size := by simp only [Nat.zero_add] at q0; omega
     refine (fits_80 s a ha E D N F g ps.length kc (ps.getD 0 0) w c80 (by rw [l1]; simp) hlt hs hg (hc 0 (by rw [l1]; simp))).mono ?_
     rintro e w' ⟨he, hb⟩
     refine ⟨?_, hb⟩
     rw [he, c80]
     have hp : p.head? = some (s[ps.getD 0 0]'hlt) := by
       have : p = (rest s (ps.getD 0 0)).take (ps.getD 1 0 - ps.getD 0 0) := q0.2
       rw [this]
       exact cut_head q0.1 z1
     show _ = Ending.returned (.bool (!(p.head? == some 86 || p.head? == some 75)))
     rw [hp]
     rfl
 · by_cases c88 : s[a] = 88
   · have hk := h2 (Or.inl c88)
     match ks, hk with
     | [p, q], _ =>
       have q0 := l2 0 (by simp)
       have q1 := l2 1 (by simp)
       have z2 := l3 2 (by rw [l1]; simp)
       refine (fits_88 s a ha E D N F g ps.length kc (ps.getD 0 0) (ps.getD 1 0) (ps.getD 2 0) w c88 (by rw [l1]; simp) (Nat.le_of_lt q0.1) (Nat.le_of_lt q1.1) z2 hs hg (hc 0 (by rw [l1]; simp)) (hc 1 (by rw [l1]; simp)) (hc 2 (by rw [l1]; simp))).mono ?_
       rintro e w' ⟨he, hb⟩
       refine ⟨?_, hb⟩
       rw [he, c88]
       have e0 : p = (rest s (ps.getD 0 0)).take (ps.getD 1 0 - ps.getD 0 0) := q0.2
       have e1 : q = (rest s (ps.getD 1 0)).take (ps.getD 2 0 - ps.getD 1 0) := q1.2
       rw [← e0, ← e1]
       rfl
   · by_cases c87 : s[a] = 87
     · have hk := h2 (Or.inr (Or.inl c87))
       match ks, hk with
       | [p, q], _ =>
         have q0 := l2 0 (by simp)
         have q1 := l2 1 (by simp)
         have z1 := l3 1 (by rw [l1]; simp)
         have z2 := l3 2 (by rw [l1]; simp)
         have hlt0 : ps.getD 0 0 < s.size := by simp only [Nat.zero_add] at q0; omega
         have hlt1 : ps.getD 1 0 < s.size := by have := q1.1; simp only [Nat.reduceAdd] at this; omega
         refine (fits_87 s a ha E D N F g ps.length kc (ps.getD 0 0) (ps.getD 1 0) w c87 (by rw [l1]; simp) hlt0 hlt1 hs hg (hc 0 (by rw [l1]; simp)) (hc 1 (by rw [l1]; simp))).mono ?_
         rintro e w' ⟨he, hb⟩
         refine ⟨?_, hb⟩
         rw [he, c87]
         have hp : p.head? = some (s[ps.getD 0 0]'hlt0) := by
           have : p = (rest s (ps.getD 0 0)).take (ps.getD 1 0 - ps.getD 0 0) := q0.2
           rw [this]; exact cut_head q0.1 z1
         have hq : q.head? = some (s[ps.getD 1 0]'hlt1) := by
           have : q = (rest s (ps.getD 1 0)).take (ps.getD 2 0 - ps.getD 1 0) := q1.2
           rw [this]; exact cut_head q1.1 z2
         show _ = Ending.returned (.bool (Tm.isPk p.head? && Tm.isPk q.head?))
         rw [hp, hq]
     · by_cases c76 : s[a] = 76
       · have hk := h2 (Or.inr (Or.inr c76))
         match ks, hk with
         | [p, q], _ =>
           have q0 := l2 0 (by simp)
           have z1 := l3 1 (by rw [l1]; simp)
           have hlt0 : ps.getD 0 0 < s.size := by simp only [Nat.zero_add] at q0; omega
           refine (fits_76 s a ha E D N F g ps.length kc (ps.getD 0 0) w c76 (by rw [l1]; simp) hlt0 hs hg (hc 0 (by rw [l1]; simp))).mono ?_
           rintro e w' ⟨he, hb⟩
           refine ⟨?_, hb⟩
           rw [he, c76]
           have hp : p.head? = some (s[ps.getD 0 0]'hlt0) := by
             have : p = (rest s (ps.getD 0 0)).take (ps.getD 1 0 - ps.getD 0 0) := q0.2
             rw [this]; exact cut_head q0.1 z1
           show _ = Ending.returned (.bool (Tm.isPk p.head?))
           rw [hp]
       · refine (fits_else s a ha E D N F g ps.length kc w c80 c88 c87 c76 hs).mono ?_
         rintro e w' ⟨he, hb⟩
         refine ⟨?_, hb⟩
         rw [he]
         unfold Tm.fitB
         rw [if_neg c80, if_neg c88, if_neg c87, if_neg c76]
def Told (s : ByteArray) (a n : Nat) (x : Nat × Bs) (N F : Int) (kv : Value) (base : Nat) (w : World) : Prop :=
 ∃ ha : a < s.size,
   (s[a] = 110 ∧ N = Tm.nameN (rest s (a + 1)) ∧ kv = .slice none 0 0) ∨
   (s[a] = 116 ∧ kv = .slice none 0 0 ∧ ∃ f : Nat, F = f ∧ f ≤ s.size - x.2.length ∧ Tm.textX (rest s (a + 1)) = (rest s f).take (s.size - x.2.length - f)) ∨
   (s[a] ≠ 110 ∧ s[a] ≠ 116 ∧ ∃ ps, w.ownsRow base 3 1 kv ps.length (ints ps) ∧ Cuts s ps (Tm.kidsOf n (rest s a)))
def RC (n : Nat) : Prop := ∀ (s : ByteArray) (a : Nat) (w : World), s.size ≤ 20000 → a ≤ s.size →
 Calls Tryz.prog 94 #[.string s, .int .i64 (a : Int), .int .i64 (n : Int)] w fun en w' => Below w.heap.size w w' ∧
   Ends (Tm.rd n (rest s a)) (fun x => ∃ (N F : Int) (ao : Option Addr) (kn kc : Nat), en = .returned (cutV ((s.size - x.2.length : Nat) : Int) (x.1 : Int) N F (.slice ao kn kc)) ∧ Told s a (n - 1) x N F (.slice ao kn kc) w.heap.size w')
     (∃ D N : Int, en = .returned (cutV (-1) D N 0 (.slice none 0 0)))
theorem below_alloc_self' (w : World) (o : Obj) : Below w.heap.size w (w.alloc o) := (Below.refl _ w).alloc (Nat.le_refl _) o
abbrev cutZ : Array Value := #[.int .i64 0, .int .i64 0, .int .u64 0, .int .i64 0, .slice none 0 0]
theorem cutZ_cells {w : World} {b : Nat} (h : w.heap[b]? = some (.cells cutZ 109 (0, 0))) :
   w.cell? ⟨b, 0, none⟩ = some (.int .i64 0) ∧ w.cell? ⟨b, 1, none⟩ = some (.int .i64 0) ∧ w.cell? ⟨b, 2, none⟩ = some (.int .u64 0) ∧ w.cell? ⟨b, 3, none⟩ = some (.int .i64 0) ∧ w.cell? ⟨b, 4, none⟩ = some (.slice none 0 0) ∧ (∀ o, w.frozen? ⟨b, o, none⟩ = false) :=
 ⟨by rw [cell_of_heap h]; rfl, by rw [cell_of_heap h]; rfl, by rw [cell_of_heap h]; rfl, by rw [cell_of_heap h]; rfl, by rw [cell_of_heap h]; rfl, fun o => frozen_of_heap h o⟩
set_option maxHeartbeats 2000000 in
theorem read_none (s : ByteArray) (a n : Nat) (w : World) (h : s.size ≤ a ∨ n = 0) :
   Calls Tryz.prog 94 #[.string s, .int .i64 (a : Int), .int .i64 (n : Int)] w fun en w' => Below w.heap.size w w' ∧ en = .returned (cutV (-1) 0 0 0 (.slice none 0 0)) := by
 have fin : ∀ (w1 : World) (hb : Below (w.alloc (.cells cutZ 109)).heap.size (w.alloc (.cells cutZ 109)) w1), Below w.heap.size w w1 ∧ w1.heap[w.heap.size]? = some (.cells cutZ 109 (0, 0)) := fun w1 hb =>
   ⟨(below_alloc_self' w _).trans (hb.mono (by simp)), by rw [hb.block _ (by simp)]; exact heap_alloc_new w _⟩
 by_cases h1 : s.size ≤ a
 · have h1' : (s.size : Int) ≤ (a : Int) := by omega
   go_enter Tryz.func94, Tryz.ntmps94
   go_wp2_with fail
   refine (rnone_any _).mono ?_
   rintro e w1 ⟨rfl, hb⟩
   obtain ⟨hbl, hh⟩ := fin w1 hb
   obtain ⟨q0, q1, q2, q3, q4, qf⟩ := cutZ_cells hh
   have HB := hid hbl
   clear fin hb hbl hh h
   go_wp2_with fail
   refine bodyPost_ret (v := cutV (-1) 0 0 0 (.slice none 0 0)) (by simp [results, Tryz.results94, go_sem, q0, q1, q2, q3, q4]) rfl ⟨?_, rfl⟩
   exact ((((HB.out.setCell (by simp) _).setCell (by simp) _).setCell (by simp) _).setCell (by simp) _).setCell (by simp) _
 · have h1' : ¬ (s.size : Int) ≤ (a : Int) := by omega
   have hn : ((n : Int) == 0) = true := by
     rcases h with h | h
     · exact absurd h h1
     · simp [h]
   go_enter Tryz.func94, Tryz.ntmps94
   go_wp2_with fail
   refine (rnone_any _).mono ?_
   rintro e w1 ⟨rfl, hb⟩
   obtain ⟨hbl, hh⟩ := fin w1 hb
   obtain ⟨q0, q1, q2, q3, q4, qf⟩ := cutZ_cells hh
   have HB := hid hbl
   clear fin hb hbl hh h
   go_wp2_with fail
   refine bodyPost_ret (v := cutV (-1) 0 0 0 (.slice none 0 0)) (by simp [results, Tryz.results94, go_sem, q0, q1, q2, q3, q4]) rfl ⟨?_, rfl⟩
   exact ((((HB.out.setCell (by simp) _).setCell (by simp) _).setCell (by simp) _).setCell (by simp) _).setCell (by simp) _
end Go.Proofs.YtkifchjpgdmcoaaGreatDoor

/- What the document's reading of a name does. -/
namespace Go.Proofs.YtkifchjpgdmcoaaGreatDoor
open Go.RowKit
theorem res_block (w : World) (o : Obj) (h : o = .cells cutZ 109) (w1 : World) (hb : Below (w.alloc o).heap.size (w.alloc o) w1) : Below w.heap.size w w1 ∧ w1.heap[w.heap.size]? = some (.cells cutZ 109 (0, 0)) :=
 ⟨(below_alloc_self' w _).trans (hb.mono (by simp)), by rw [hb.block _ (by simp), h]; exact heap_alloc_new w _⟩
set_option maxHeartbeats 2000000 in
theorem read_name (s : ByteArray) (a n : Nat) (w : World) (hs : s.size ≤ 20000) (ha : a < s.size) (hc : s[a] = 110) :
   Calls Tryz.prog 94 #[.string s, .int .i64 (a : Int), .int .i64 ((n + 1 : Nat) : Int)] w fun en w' => Below w.heap.size w w' ∧
   Ends (Tm.rd (n + 1) (rest s a)) (fun x => ∃ (N F : Int) (ao : Option Addr) (kn kc : Nat), en = .returned (cutV ((s.size - x.2.length : Nat) : Int) (x.1 : Int) N F (.slice ao kn kc)) ∧ Told s a n x N F (.slice ao kn kc) w.heap.size w')
     (∃ D N : Int, en = .returned (cutV (-1) D N 0 (.slice none 0 0))) := by
 have ha' : ¬ (s.size : Int) ≤ (a : Int) := by omega
 have hn : (((n + 1 : Nat) : Int) == 0) = false := by simp; omega
 have hcc : (s[a].toNat : Int) = 110 := by rw [hc]; rfl
 have hrd : Hid (Tm.rd (n + 1) (rest s a) = Tm.nameA (rest s (a + 1))) := by
   apply hid; rw [rest_cons ha, Tm.rd_cons, if_pos hc]
 have HC := hid hc
 clear hc
 go_enter Tryz.func94, Tryz.ntmps94
 go_wp2_with fail
 refine (rnumber_any s (a + 1) 59 59 rfl (by decide) hs _).mono ?_
 rintro e w1 ⟨rfl, hE⟩
 obtain ⟨_, hh⟩ := res_block w (.cells cutZ 109) rfl _ (Below.refl _ _)
 obtain ⟨q0, q1, q2, q3, q4, qf⟩ := cutZ_cells hh
 clear hh
 cases hnum : Tm.num 59 (rest s (a + 1)) with
 | none =>
   have he := hE.none hnum
   subst he
   have HN := hid hnum
   clear hnum hE
   go_wp2_with fail
   refine bodyPost_ret (v := cutV (-1) 1 0 0 (.slice none 0 0)) (by simp [results, Tryz.results94, go_sem]) rfl ⟨?_, ?_⟩
   · exact below_alloc_self' w _
   · rw [hrd.out]
     exact ends_none (by unfold Tm.nameA; rw [HN.out]) ⟨1, 0, rfl⟩
 | some x =>
   obtain ⟨k, r⟩ := x
   have he := hE.some hnum
   subst he
   have HN := hid hnum
   clear hnum hE
   go_wp2_with fail
   refine bodyPost_ret (v := cutV ((s.size - r.length : Nat) : Int) 1 (k : Int) 0 (.slice none 0 0)) (by simp [results, Tryz.results94, go_sem]) rfl ⟨?_, ?_⟩
   · exact below_alloc_self' w _
   · rw [hrd.out]
     refine ends_some (x := (1, r)) (by unfold Tm.nameA; rw [HN.out]) ⟨k, 0, none, 0, 0, rfl, ha, Or.inl ⟨HC.out, ?_, rfl⟩⟩
     unfold Tm.nameN; rw [HN.out]
end Go.Proofs.YtkifchjpgdmcoaaGreatDoor

/- What the document's reading of a text does. -/
namespace Go.Proofs.YtkifchjpgdmcoaaGreatDoor
open Go.RowKit
set_option maxHeartbeats 2000000 in
theorem read_text (s : ByteArray) (a n : Nat) (w : World) (hs : s.size ≤ 20000) (ha : a < s.size) (hc : s[a] = 116) :
   Calls Tryz.prog 94 #[.string s, .int .i64 (a : Int), .int .i64 ((n + 1 : Nat) : Int)] w fun en w' => Below w.heap.size w w' ∧
   Ends (Tm.rd (n + 1) (rest s a)) (fun x => ∃ (N F : Int) (ao : Option Addr) (kn kc : Nat), en = .returned (cutV ((s.size - x.2.length : Nat) : Int) (x.1 : Int) N F (.slice ao kn kc)) ∧ Told s a n x N F (.slice ao kn kc) w.heap.size w')
     (∃ D N : Int, en = .returned (cutV (-1) D N 0 (.slice none 0 0))) := by
 have ha' : ¬ (s.size : Int) ≤ (a : Int) := by omega
 have hn : (((n + 1 : Nat) : Int) == 0) = false := by simp; omega
 have hcc : (s[a].toNat : Int) = 116 := by rw [hc]; rfl
 have hrd : Hid (Tm.rd (n + 1) (rest s a) = Tm.textA (rest s (a + 1))) := by
   apply hid; rw [rest_cons ha, Tm.rd_cons, if_neg (by rw [hc]; decide), if_pos hc]
 have HC := hid hc
 clear hc
 go_enter Tryz.func94, Tryz.ntmps94
 go_wp2_with fail
 refine (rnumber_any s (a + 1) 58 58 rfl (by decide) hs _).mono ?_
 rintro e w1 ⟨rfl, hE⟩
 cases hnum : Tm.num 58 (rest s (a + 1)) with
 | none =>
   have he := hE.none hnum
   subst he
   have HN := hid hnum
   clear hnum hE
   go_wp2_with fail
   refine (rnone_any _).mono ?_
   rintro e w2 ⟨rfl, hb⟩
   obtain ⟨hbl, hh⟩ := res_block w (.cells cutZ 109) rfl _ hb
   obtain ⟨q0, q1, q2, q3, q4, qf⟩ := cutZ_cells hh
   have HB := hid hbl
   clear hbl hh hb
   go_wp2_with fail
   refine bodyPost_ret (v := cutV (-1) 0 0 0 (.slice none 0 0)) (by simp [results, Tryz.results94, go_sem, q0, q1, q2, q3, q4]) rfl ⟨?_, ?_⟩
   · exact ((((HB.out.setCell (by simp) _).setCell (by simp) _).setCell (by simp) _).setCell (by simp) _).setCell (by simp) _
   · rw [hrd.out]
     exact ends_none (by unfold Tm.textA; rw [HN.out]) ⟨0, 0, rfl⟩
 | some x =>
   obtain ⟨k, r⟩ := x
   have he := hE.some hnum
   subst he
   have hr : r.length < (rest s (a + 1)).length := by
     obtain ⟨p, hp, he, _⟩ := Tm.num_app hnum
     rw [he]; have := List.length_pos_iff.2 hp; simp; omega
   have hrs : (rest s (s.size - r.length)) = r := by
     obtain ⟨p, hp, he, _⟩ := Tm.num_app hnum
     have h1 := congrArg List.length he
     rw [rest_len, List.length_append] at h1
     have : rest s (s.size - r.length) = (rest s (a + 1)).drop p.length := by
       show List.drop _ _ = List.drop _ (List.drop _ _)
       rw [List.drop_drop]; congr 1; omega
     rw [this, he]; simp
   rw [rest_len] at hr
   have HR := hid hrs
   have HN := hid hnum
   clear hnum hE hrs
   have hge : ¬ ((s.size - r.length : Nat) : Int) < 0 := by omega
   generalize hE : s.size - r.length = E at *
   have hEr : r.length = s.size - E := by omega
   have hEs : E ≤ s.size := by omega
   by_cases h1 : 4096 < k
   · have h1' : (4096 : Int) < (k : Int) := by omega
     go_wp2_with fail
     refine (rnone_any _).mono ?_
     rintro e w2 ⟨rfl, hb⟩
     obtain ⟨hbl, hh⟩ := res_block w (.cells cutZ 109) rfl _ hb
     obtain ⟨q0, q1, q2, q3, q4, qf⟩ := cutZ_cells hh
     have HB := hid hbl
     clear hbl hh hb
     go_wp2_with fail
     refine bodyPost_ret (v := cutV (-1) 0 0 0 (.slice none 0 0)) (by simp [results, Tryz.results94, go_sem, q0, q1, q2, q3, q4]) rfl ⟨?_, ?_⟩
     · exact ((((HB.out.setCell (by simp) _).setCell (by simp) _).setCell (by simp) _).setCell (by simp) _).setCell (by simp) _
     · rw [hrd.out]
       exact ends_none (by unfold Tm.textA; rw [HN.out]; simp only; rw [if_neg (by omega)]) ⟨0, 0, rfl⟩
   · have h1' : ¬ (4096 : Int) < (k : Int) := by omega
     have hw1 : IntKind.i64.wrap ((s.size : Int) - (E : Int)) = (s.size : Int) - (E : Int) := by rw [IntKind.wrap_i64]; omega
     have hw2 : IntKind.u64.wrap ((s.size : Int) - (E : Int)) = (s.size : Int) - (E : Int) := by rw [IntKind.wrap_u64]; omega
     by_cases h2 : s.size - E < k
     · have h2' : (s.size : Int) - (E : Int) < (k : Int) := by omega
       go_wp2_with fail
       refine (rnone_any _).mono ?_
       rintro e w2 ⟨rfl, hb⟩
       obtain ⟨hbl, hh⟩ := res_block w (.cells cutZ 109) rfl _ hb
       obtain ⟨q0, q1, q2, q3, q4, qf⟩ := cutZ_cells hh
       have HB := hid hbl
       clear hbl hh hb
       go_wp2_with fail
       refine bodyPost_ret (v := cutV (-1) 0 0 0 (.slice none 0 0)) (by simp [results, Tryz.results94, go_sem, q0, q1, q2, q3, q4]) rfl ⟨?_, ?_⟩
       · exact ((((HB.out.setCell (by simp) _).setCell (by simp) _).setCell (by simp) _).setCell (by simp) _).setCell (by simp) _
       · rw [hrd.out]
         exact ends_none (by unfold Tm.textA; rw [HN.out]; simp only; rw [if_neg (by omega)]) ⟨0, 0, rfl⟩
     · have h2' : ¬ (s.size : Int) - (E : Int) < (k : Int) := by omega
       have hw3 : IntKind.i64.wrap (k : Int) = (k : Int) := by rw [IntKind.wrap_i64]; omega
       have hw4 : IntKind.i64.wrap ((E : Int) + (k : Int)) = ((E + k : Nat) : Int) := by rw [IntKind.wrap_i64]; omega
       obtain ⟨_, hh⟩ := res_block w (.cells cutZ 109) rfl _ (Below.refl _ _)
       obtain ⟨q0, q1, q2, q3, q4, qf⟩ := cutZ_cells hh
       clear hh
       go_wp2_with fail
       refine bodyPost_ret (v := cutV ((E + k : Nat) : Int) 1 (k : Int) (E : Int) (.slice none 0 0)) (by simp [results, Tryz.results94, go_sem]) rfl ⟨?_, ?_⟩
       · exact below_alloc_self' w _
       · rw [hrd.out]
         have hl : (r.drop k).length = s.size - (E + k) := by rw [List.length_drop]; omega
         refine ends_some (x := (1, r.drop k)) (by unfold Tm.textA; rw [HN.out]; simp only; rw [if_pos (by omega)]) ⟨k, E, none, 0, 0, ?_, ha, Or.inr (Or.inl ⟨HC.out, rfl, E, rfl, ?_, ?_⟩)⟩
         · simp only [hl]; congr 3; congr 1; omega
         · simp only [hl]; omega
         · unfold Tm.textX; rw [HN.out, HR.out]; simp only [hl]; congr 1; omega
end Go.Proofs.YtkifchjpgdmcoaaGreatDoor

/- What the document's reading of parts needs: where they are kept while it reads. -/
namespace Go.Proofs.YtkifchjpgdmcoaaGreatDoor
open Go.RowKit
namespace Tm
theorem body_none0 {n : Nat} {c : UInt8} {l : Bs} (h : headB c l = none) : bodyB n c l = none := by unfold bodyB; rw [h]
theorem body_none1 {n : Nat} {c : UInt8} {l r : Bs} {k : Nat} (h : headB c l = some (k, r)) (h2 : manyA (rd n) k 1 r = none) : bodyB n c l = none := by unfold bodyB; rw [h]; simp only; rw [h2]
theorem body_fit {n : Nat} {c : UInt8} {l r r' : Bs} {k d : Nat} (h : headB c l = some (k, r)) (h2 : manyA (rd n) k 1 r = some (d, r')) : bodyB n c l = if fitB c (kidsN (rd n) k r) then some (d, r') else none := by unfold bodyB; rw [h]; simp only; rw [h2]
theorem many_two_some {f : Bs → Option (Nat × Bs)} {l r' : Bs} {d : Nat} (h : manyA f 2 1 l = some (d, r')) : ∃ d' r r'', twoA f l = some (d', r, r'') := by
 rw [many_two] at h
 unfold two2 at h
 cases h2 : twoA f l with
 | none => rw [h2] at h; cases h
 | some x => exact ⟨x.1, x.2.1, x.2.2, rfl⟩
theorem parts_cases {c : UInt8} {k : Nat} (h : partsN c = some k) : (k = 1 ∧ (c = 80 ∨ c = 72)) ∨ (k = 2 ∧ c ≠ 80 ∧ c ≠ 72) := by
 unfold partsN at h
 split at h
 · rename_i h1; left; exact ⟨(Option.some.inj h).symm, h1⟩
 · rename_i h1
   split at h
   · right; exact ⟨(Option.some.inj h).symm, fun e => h1 (Or.inl e), fun e => h1 (Or.inr e)⟩
   · cases h
theorem body_kids {n : Nat} {c : UInt8} {l r r' : Bs} {k d : Nat} (h1 : c ≠ 110) (h2 : c ≠ 116) (h : headB c l = some (k, r)) (hm : manyA (rd n) k 1 r = some (d, r')) : kidsOf n (c :: l) = kidsN (rd n) k r := by
 unfold headB at h
 rw [kidsOf]
 by_cases c84 : c = 84
 · rw [if_pos c84] at h ⊢
   unfold tupleK
   cases hn : num 58 l with
   | none => rw [hn] at h; cases h
   | some x =>
     obtain ⟨k', r1⟩ := x
     rw [hn] at h
     simp only at h ⊢
     split at h
     · obtain ⟨rfl, rfl⟩ := Prod.mk.inj (Option.some.inj h); rfl
     · cases h
 · rw [if_neg c84] at h ⊢
   cases hp : partsN c with
   | none => rw [hp] at h; cases h
   | some k' =>
     rw [hp] at h
     obtain ⟨rfl, rfl⟩ := Prod.mk.inj (Option.some.inj h)
     rcases parts_cases hp with ⟨rfl, hc⟩ | ⟨rfl, hc1, hc2⟩
     · rw [if_pos hc, kidsN_one]
     · rw [if_neg (fun e => e.elim hc1 hc2), if_neg (fun e => e.elim h1 h2)]
       obtain ⟨d', q, q', ht⟩ := many_two_some hm
       rw [kidsN_two ht]
       unfold kids2
       rw [ht]
theorem head_len1 {c : UInt8} {l r : Bs} {k : Nat} (h : headB c l = some (k, r)) (hc : c = 80) : k = 1 := by
 subst hc
 exact (Prod.mk.inj (Option.some.inj h)).1.symm
theorem head_len2 {c : UInt8} {l r : Bs} {k : Nat} (h : headB c l = some (k, r)) (hc : c = 88 ∨ c = 87 ∨ c = 76) : k = 2 := by
 rcases hc with rfl | rfl | rfl <;> exact (Prod.mk.inj (Option.some.inj h)).1.symm
end Tm
theorem own_set {w : World} {base : Nat} {v : Value} {n : Nat} {xs : List Value} {ob : Nat} {cs : Array Value} (h : w.ownsRow base 3 1 v n xs) (hb : w.heap[ob]? = some (.cells cs 109 (0, 0))) (o : Nat) (u : Value) : (w.setCell ⟨ob, o, none⟩ u).ownsRow base 3 1 v n xs := by
 obtain ⟨h1, h2⟩ := h
 refine ⟨h1, ?_⟩
 rcases h2 with h2 | ⟨g, cap, cur, e1, e2, e3, e4⟩
 · exact Or.inl h2
 · refine Or.inr ⟨g, cap, cur, e1, e2, ?_, e4⟩
   have hgs : g < w.heap.size := by
     apply Classical.byContradiction
     intro hn
     rw [Array.getElem?_eq_none (by omega)] at e3
     cases e3
   have hne : g ≠ ob := by
     intro e
     subst e
     rw [e3] at hb
     simp at hb
   rw [((Frx.refl w.heap.size ob w).setCell o u).block g hgs hne]
   exact e3
abbrev cutC (E d : Nat) (kv : Value) : Array Value := #[.int .i64 (E : Int), .int .i64 (d : Int), .int .u64 0, .int .i64 0, kv]
structure OB (w : World) (ob E d : Nat) (g kc : Nat) (ps : List Nat) (wr : World) : Prop where
 bel : Below w.heap.size w wr
 res : wr.heap[w.heap.size]? = some (.cells cutZ 109 (0, 0))
 lt : w.heap.size < ob ∧ ob < wr.heap.size
 out : wr.heap[ob]? = some (.cells (cutC E d (.slice (some ⟨g, 0, none⟩) ps.length kc)) 109 (0, 0))
 own : wr.ownsRow (w.heap.size + 1) 3 1 (.slice (some ⟨g, 0, none⟩) ps.length kc) ps.length (ints ps)
theorem OB.below {w : World} {ob E d g kc : Nat} {ps : List Nat} {wr w2 : World} (h : OB w ob E d g kc ps wr) (hb : Below wr.heap.size wr w2) : OB w ob E d g kc ps w2 :=
 ⟨h.bel.trans (hb.mono h.bel.size), (hb.block _ (by have := h.lt; omega)).trans h.res, ⟨h.lt.1, Nat.lt_of_lt_of_le h.lt.2 hb.size⟩, (hb.block _ h.lt.2).trans h.out, ownsRow_of_heap h.own (fun k hk => hb.block k hk)⟩
theorem OB.alloc {w : World} {ob E d g kc : Nat} {ps : List Nat} {wr : World} (h : OB w ob E d g kc ps wr) (o : Obj) : OB w ob E d g kc ps (wr.alloc o) := h.below (below_alloc_self' _ _)
theorem OB.setD {w : World} {ob E d g kc : Nat} {ps : List Nat} {wr : World} (h : OB w ob E d g kc ps wr) (d' : Nat) (v : Value) (hv : v = .int .i64 (d' : Int)) : OB w ob E d' g kc ps (wr.setCell ⟨ob, 1, none⟩ v) := by
 subst hv
 refine ⟨h.bel.setCell (by have := h.lt; show w.heap.size ≤ ob; omega) _, ?_, ⟨h.lt.1, Nat.lt_of_lt_of_le h.lt.2 ((Frx.refl 0 ob _).setCell _ _).size⟩, ?_, own_set h.own h.out _ _⟩
 · rw [((Frx.refl wr.heap.size ob wr).setCell _ _).block _ (by have := h.lt; omega) (by have := h.lt; omega)]; exact h.res
 · rw [heap_setCell_same h.out]; rfl
theorem OB.setE {w : World} {ob E d g kc : Nat} {ps : List Nat} {wr : World} (h : OB w ob E d g kc ps wr) (E' : Nat) (v : Value) (hv : v = .int .i64 (E' : Int)) : OB w ob E' d g kc ps (wr.setCell ⟨ob, 0, none⟩ v) := by
 subst hv
 refine ⟨h.bel.setCell (by have := h.lt; show w.heap.size ≤ ob; omega) _, ?_, ⟨h.lt.1, Nat.lt_of_lt_of_le h.lt.2 ((Frx.refl 0 ob _).setCell _ _).size⟩, ?_, own_set h.own h.out _ _⟩
 · rw [((Frx.refl wr.heap.size ob wr).setCell _ _).block _ (by have := h.lt; omega) (by have := h.lt; omega)]; exact h.res
 · rw [heap_setCell_same h.out]; rfl
theorem OB.cells {w : World} {ob E d g kc : Nat} {ps : List Nat} {wr : World} (h : OB w ob E d g kc ps wr) :
   wr.cell? ⟨ob, 0, none⟩ = some (.int .i64 (E : Int)) ∧ wr.cell? ⟨ob, 1, none⟩ = some (.int .i64 (d : Int)) ∧ wr.cell? ⟨ob, 2, none⟩ = some (.int .u64 0) ∧ wr.cell? ⟨ob, 3, none⟩ = some (.int .i64 0) ∧ wr.cell? ⟨ob, 4, none⟩ = some (.slice (some ⟨g, 0, none⟩) ps.length kc) ∧ (∀ o, wr.frozen? ⟨ob, o, none⟩ = false) :=
 ⟨by rw [cell_of_heap h.out]; rfl, by rw [cell_of_heap h.out]; rfl, by rw [cell_of_heap h.out]; rfl, by rw [cell_of_heap h.out]; rfl, by rw [cell_of_heap h.out]; rfl, fun o => frozen_of_heap h.out o⟩
structure OG (w : World) (ob E d : Nat) (kv v3 : Value) (ps : List Nat) (w3 : World) : Prop where
 bel : Below w.heap.size w w3
 res : w3.heap[w.heap.size]? = some (.cells cutZ 109 (0, 0))
 lt : w.heap.size < ob ∧ ob < w3.heap.size
 out : w3.heap[ob]? = some (.cells (cutC E d kv) 109 (0, 0))
 own : w3.ownsRow (w.heap.size + 1) 3 1 v3 ps.length (ints ps)
theorem OB.grown {w : World} {ob E d g kc : Nat} {ps : List Nat} {wr w3 : World} {v3 : Value} {j : Nat} (h : OB w ob E d g kc ps wr) (ho : w3.ownsRow (w.heap.size + 1) 3 1 v3 (ps.length + 1) (ints ps ++ [.int .i64 (j : Int)])) (hg : wr.grownBy w3 (some g)) :
   OG w ob E d (.slice (some ⟨g, 0, none⟩) ps.length kc) v3 (ps ++ [j]) w3 := by
 obtain ⟨hb1, hb2⟩ : w.heap.size + 1 ≤ g ∧ g ≠ ob := by
   rcases h.own.2 with ⟨h1, _⟩ | ⟨g', cap, cur, e1, e2, e3, e4⟩
   · cases h1
   · have e : g = g' := by simp at e1; exact e1.1
     subst e
     refine ⟨e2, fun e => ?_⟩
     subst e
     rw [h.out] at e3
     simp at e3
 have hl := h.lt
 refine ⟨⟨hg.os.trans h.bel.os, hg.tape.trans h.bel.tape, hg.output.trans h.bel.output, Nat.le_trans h.bel.size hg.size, fun k hk => ?_⟩, ?_, ⟨hl.1, Nat.lt_of_lt_of_le hl.2 hg.size⟩, ?_, ?_⟩
 · rw [hg.block k (by have := h.bel.size; omega) (by intro e; have := Option.some.inj e; omega)]; exact h.bel.block k hk
 · rw [hg.block _ (by omega) (by intro e; have := Option.some.inj e; omega)]; exact h.res
 · rw [hg.block _ hl.2 (by intro e; exact hb2 (Option.some.inj e).symm)]; exact h.out
 · simpa [ints] using ho
theorem OG.cells {w : World} {ob E d : Nat} {kv v3 : Value} {ps : List Nat} {w3 : World} (h : OG w ob E d kv v3 ps w3) : w3.cell? ⟨ob, 4, none⟩ = some kv ∧ (∀ o, w3.frozen? ⟨ob, o, none⟩ = false) :=
 ⟨by rw [cell_of_heap h.out]; rfl, fun o => frozen_of_heap h.out o⟩
theorem OG.form {w : World} {ob E d : Nat} {kv v3 : Value} {ps : List Nat} {w3 : World} (h : OG w ob E d kv v3 ps w3) (hp : ps ≠ []) : ∃ g kc, v3 = .slice (some ⟨g, 0, none⟩) ps.length kc := by
 obtain ⟨g, kc, e, _⟩ := own_ints h.own hp
 exact ⟨g, kc, e⟩
theorem OG.store {w : World} {ob E d : Nat} {kv : Value} {g kc : Nat} {ps : List Nat} {w3 : World} (h : OG w ob E d kv (.slice (some ⟨g, 0, none⟩) ps.length kc) ps w3) : OB w ob E d g kc ps (w3.setCell ⟨ob, 4, none⟩ (.slice (some ⟨g, 0, none⟩) ps.length kc)) := by
 have hl := h.lt
 refine ⟨h.bel.setCell (by show w.heap.size ≤ ob; omega) _, ?_, ⟨h.lt.1, Nat.lt_of_lt_of_le h.lt.2 ((Frx.refl 0 ob _).setCell _ _).size⟩, ?_, own_set h.own h.out _ _⟩
 · rw [((Frx.refl w3.heap.size ob w3).setCell _ _).block _ (by omega) (by omega)]; exact h.res
 · rw [heap_setCell_same h.out]; rfl
theorem resb {w W wn : World} (h1 : Below w.heap.size w W) (h2 : W.heap[w.heap.size]? = some (.cells cutZ 109 (0, 0))) (hb : Below W.heap.size W wn) : Below w.heap.size w wn ∧ wn.heap[w.heap.size]? = some (.cells cutZ 109 (0, 0)) := by
 have hlt : w.heap.size < W.heap.size := by
   apply Classical.byContradiction
   intro hn
   rw [Array.getElem?_eq_none (by omega)] at h2
   cases h2
 exact ⟨h1.trans (hb.mono h1.size), (hb.block _ hlt).trans h2⟩
theorem cuts_more {s : ByteArray} {ps : List Nat} {kk : List Bs} {j j' : Nat} (h : Cuts s ps kk) (hj : ps.getD kk.length 0 = j) (h1 : j < j') (h2 : j' ≤ s.size) (p : Bs) (hp : p = (rest s j).take (j' - j)) :
   Cuts s (ps ++ [j']) (kk ++ [p]) := by
 obtain ⟨l1, l2, l3⟩ := h
 have g1 : ∀ i, i < ps.length → (ps ++ [j']).getD i 0 = ps.getD i 0 := by
   intro i hi; simp [List.getD, List.getElem?_append_left hi]
 have g2 : (ps ++ [j']).getD ps.length 0 = j' := by simp [List.getD]
 refine ⟨by simp [l1], fun i hi => ?_, fun i hi => ?_⟩
 · by_cases h3 : i < kk.length
   · obtain ⟨q1, q2⟩ := l2 i h3
     rw [g1 i (by omega), g1 (i + 1) (by omega)]
     refine ⟨q1, ?_⟩
     rw [← q2]; simp [List.getD, List.getElem?_append_left h3]
   · have h4 : i = kk.length := by simp at hi; omega
     subst h4
     rw [g1 _ (by omega), hj, ← l1, g2]
     refine ⟨h1, ?_⟩
     rw [← hp]; simp [List.getD]
 · by_cases h3 : i < ps.length
   · rw [g1 i h3]; exact l3 i h3
   · have h4 : i = ps.length := by simp at hi; omega
     subst h4
     rw [g2]; exact h2
end Go.Proofs.YtkifchjpgdmcoaaGreatDoor
