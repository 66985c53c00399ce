/- What Open does. -/
import Derived.Test.YtkifchjpgdmcoaaGreatDoorAskAll
import Derived.Deep.RegionWith
namespace Go.Proofs.YtkifchjpgdmcoaaGreatDoor
open Go.RowKit
theorem used_len (l r : Bs) : (Tm.used l r).length ≤ l.length := by unfold Tm.used; rw [List.length_take]; omega
theorem kidsN_len {f : Bs → Option (Nat × Bs)} (hf : ∀ l d r, f l = some (d, r) → r.length ≤ l.length) : ∀ (k : Nat) (l : Bs), ∀ x ∈ Tm.kidsN f k l, x.length ≤ l.length
 | 0, _, x, h => by simp [Tm.kidsN] at h
 | k + 1, l, x, h => by
   rw [Tm.kidsN] at h
   cases hr : f l with
   | none => rw [hr] at h; simp at h
   | some y =>
     obtain ⟨d, r⟩ := y
     rw [hr] at h
     simp at h
     rcases h with h | h
     · rw [h]; exact used_len _ _
     · have := kidsN_len hf k r x h
       have := hf _ _ _ hr
       omega
theorem rd_le' (n : Nat) : ∀ l d r, Tm.rd n l = some (d, r) → r.length ≤ l.length := fun l d r h => by have := (Tm.rd_len h).1; omega
theorem num_le {e : UInt8} {l : Bs} {m : Nat} {r : Bs} (h : Tm.num e l = some (m, r)) : r.length ≤ l.length := by
 obtain ⟨p, _, rfl, _⟩ := Tm.num_app h; simp
theorem kids_len (s : Bs) : ∀ x ∈ Tm.kidsOf 63 s, x.length ≤ s.length := by
 intro x hx
 match s with
 | [] => simp [Tm.kidsOf] at hx
 | c :: l =>
   rw [Tm.kidsOf] at hx
   split at hx
   · unfold Tm.tupleK at hx
     cases hn : Tm.num 58 l with
     | none => rw [hn] at hx; simp at hx
     | some y =>
       obtain ⟨k, r⟩ := y
       rw [hn] at hx
       have := kidsN_len (rd_le' 63) k r x hx
       have := num_le hn
       simp; omega
   · split at hx
     · unfold Tm.kids1 at hx
       cases hr : Tm.rd 63 l with
       | none => rw [hr] at hx; simp at hx
       | some y =>
         obtain ⟨d, r⟩ := y
         rw [hr] at hx
         simp at hx
         rw [hx]
         have := used_len l r
         simp; omega
     · split at hx
       · simp at hx
       · unfold Tm.kids2 at hx
         cases hr : Tm.twoA (Tm.rd 63) l with
         | none => rw [hr] at hx; simp at hx
         | some y =>
           obtain ⟨d, r, r'⟩ := y
           rw [hr] at hx
           obtain ⟨p, q, a, b, rfl, rfl, _⟩ := Tm.two_good (Tm.rd_good 63) hr
           simp at hx
           rcases hx with hx | hx
           · rw [hx]; have := used_len (p ++ (q ++ r')) (q ++ r'); simp at this ⊢; omega
           · rw [hx]; have := used_len (q ++ r') r'; simp at this ⊢; omega
theorem setX_len (s : Bs) : (setX s ⟨#[]⟩).size ≤ s.length := by
 match s with
 | [] => simp [setX, ByteArray.size]
 | c :: l =>
   rw [setX]
   split
   · rw [st_size]
     unfold Tm.textX
     cases hn : Tm.num 58 l with
     | none => simp
     | some y =>
       obtain ⟨k, r⟩ := y
       have := num_le hn
       simp; omega
   · simp [ByteArray.size]
theorem set_same {cur : Array Value} {i : Nat} {v : Value} (h : cur[i]? = some v) : cur.setIfInBounds i v = cur := by
 apply Array.ext_getElem?
 intro j
 rw [Array.getElem?_setIfInBounds]
 split
 · rename_i hij
   subst hij
   split
   · exact h.symm
   · rename_i hn
     rw [Array.getElem?_eq_none (by omega)] at h
     cases h
 · rfl
set_option maxHeartbeats 2000000 in
theorem open_no (s : Bs) (w : World) (hd : Tm.deep s = 0) :
   Calls Tryz.prog 61 #[St s] w fun en w' => en = .returned (.tuple #[.agg #[.int .u8 0, .int .i64 0, .string ⟨#[]⟩, .slice none 0 0], .bool false]) ∧ Below w.heap.size w w' := by
 have HD := hid hd
 clear hd
 go_enter Tryz.func61, Tryz.ntmps61
 go_wp2_with fail
 refine (parts_list s _).mono ?_
 rintro e w1 ⟨hb, h1, _⟩
 obtain rfl := h1 HD.out
 have hbl : Below w.heap.size w w1 := ((Below.refl _ w).alloc (Nat.le_refl _) (.cells #[.int .u8 0, .int .i64 0, .string ⟨#[]⟩, .slice none 0 0] 82)).trans (hb.mono (by simp))
 have hres : w1.heap[w.heap.size]? = some (.cells #[.int .u8 0, .int .i64 0, .string ⟨#[]⟩, .slice none 0 0] 82 (0, 0)) := by
   rw [hb.block w.heap.size (by simp)]; exact heap_alloc_new w _
 have r0 : w1.cell? ⟨w.heap.size, 0, none⟩ = some (.int .u8 0) := by rw [cell_of_heap hres]; rfl
 have r1 : w1.cell? ⟨w.heap.size, 1, none⟩ = some (.int .i64 0) := by rw [cell_of_heap hres]; rfl
 have r2 : w1.cell? ⟨w.heap.size, 2, none⟩ = some (.string ⟨#[]⟩) := by rw [cell_of_heap hres]; rfl
 have r3 : w1.cell? ⟨w.heap.size, 3, none⟩ = some (.slice none 0 0) := by rw [cell_of_heap hres]; rfl
 have rf : ∀ o, w1.frozen? ⟨w.heap.size, o, none⟩ = false := fun o => frozen_of_heap hres o
 have hlt : w.heap.size < w1.heap.size := by have := hb.size; simp at this; omega
 have HB := hid hbl
 clear hb h1 hres hbl
 go_wp2_with fail
 refine bodyPost_ret (v := .tuple #[.agg #[.int .u8 0, .int .i64 0, .string ⟨#[]⟩, .slice none 0 0], .bool false]) (by simp [results, Tryz.results61, go_sem, r0, r1, r2, r3, hlt]) rfl ⟨rfl, ?_⟩
 refine Below.alloc ?_ ?_ _
 · exact (((HB.out.setCell (by simp) _).setCell (by simp) _).setCell (by simp) _).setCell (by simp) _
 · have := HB.out.size; simp [World.setCell]; omega
theorem own_row {w : World} {base : Nat} {kids : Value} {ks : List Bs} (h : w.ownsRow base 22 1 kids ks.length (ks.map St)) :
   ∃ ao kc, kids = .slice ao ks.length kc ∧ ks.length ≤ 9223372036854775807 ∧ (ks ≠ [] → ∃ g cur, ao = some ⟨g, 0, none⟩ ∧ base ≤ g ∧ g < w.heap.size ∧ w.heap[g]? = some (.cells cur 22 (0, 0)) ∧ ∀ i (hi : i < ks.length), cur[i]? = some (St ks[i])) := by
 rcases h.2 with ⟨h1, h0⟩ | ⟨g, cap, cur, hv, hb, hg, hc1, hc2, hc3, hc4⟩
 · have := List.eq_nil_of_length_eq_zero h0
   subst this
   exact ⟨none, 0, h1, by simp, fun e => absurd rfl e⟩
 · have hgs : g < w.heap.size := by
     apply Classical.byContradiction
     intro hn
     rw [Array.getElem?_eq_none (by omega)] at hg
     cases hg
   refine ⟨_, cap, hv, by unfold maxLen at hc2; omega, fun _ => ⟨g, cur, rfl, hb, hgs, hg, fun i hi => ?_⟩⟩
   have e : (cur.toList.take (ks.length * 1))[i]? = some (St ks[i]) := by rw [hc4]; simp [hi]
   rw [Nat.mul_one, List.getElem?_take_of_lt hi, Array.getElem?_toList] at e
   exact e
theorem ownsRow_of_heap {w w2 : World} {base : Nat} {e : TypeId} {size : Nat} {v : Value} {n : Nat} {xs : List Value} (h : w.ownsRow base e size v n xs) (hh : ∀ k, k < w.heap.size → w2.heap[k]? = w.heap[k]?) : w2.ownsRow base e size v n xs := by
 obtain ⟨h1, h2⟩ := h
 refine ⟨h1, ?_⟩
 rcases h2 with h2 | ⟨g, cap, cur, e1, e2, e3, e4⟩
 · exact Or.inl h2
 · refine Or.inr ⟨g, cap, cur, e1, e2, ?_, e4⟩
   have hg : g < w.heap.size := by
     apply Classical.byContradiction
     intro hn
     rw [Array.getElem?_eq_none (by omega)] at e3
     cases e3
   rw [hh g hg]; exact e3
structure Kept (w : World) (pb : Nat) (cp : Array Value) (kv : Value) (ks : List Bs) (wr : World) : Prop where
 bel : Below w.heap.size w wr
 hr : wr.heap[w.heap.size]? = some (.cells #[.int .u8 0, .int .i64 0, .string ⟨#[]⟩, .slice none 0 0] 82 (0, 0))
 hp : wr.heap[pb]? = some (.cells cp 82 (0, 0))
 lp : w.heap.size < pb ∧ pb < wr.heap.size
 own : wr.ownsRow (w.heap.size + 1) 22 1 kv ks.length (ks.map St)
theorem Kept.below {w : World} {pb : Nat} {cp : Array Value} {kv : Value} {ks : List Bs} {wr w2 : World} (h : Kept w pb cp kv ks wr) (hb : Below wr.heap.size wr w2) : Kept w pb cp kv ks w2 := by
 obtain ⟨h1, h2, h3, h4, h5⟩ := h
 refine ⟨h1.trans (hb.mono h1.size), ?_, ?_, ⟨h4.1, Nat.lt_of_lt_of_le h4.2 hb.size⟩, ownsRow_of_heap h5 hb.block⟩
 · rw [hb.block _ (by have := h4; omega)]; exact h2
 · rw [hb.block _ h4.2]; exact h3
theorem heap_set_same {w : World} {b : Nat} {cs : Array Value} {t : TypeId} (h : w.heap[b]? = some (.cells cs t (0, 0))) {o : Nat} {v : Value} (hv : cs[o]? = some v) (k : Nat) :
   (w.setCell ⟨b, o, none⟩ v).heap[k]? = w.heap[k]? := by
 by_cases hk : k = b
 · subst hk
   rw [heap_setCell_same h, set_same hv, h]
 · exact Below.heap_setCell _ _ _ _ hk
theorem Kept.same {w : World} {pb : Nat} {cp : Array Value} {kv : Value} {ks : List Bs} {wr : World} (h : Kept w pb cp kv ks wr) {b : Nat} {cs : Array Value} {t : TypeId} (hb : wr.heap[b]? = some (.cells cs t (0, 0))) {o : Nat} {v : Value} (hv : cs[o]? = some v) :
   Kept w pb cp kv ks (wr.setCell ⟨b, o, none⟩ v) := by
 have hh := heap_set_same hb hv
 have hsz : (wr.setCell ⟨b, o, none⟩ v).heap.size = wr.heap.size := by simp [World.setCell]
 obtain ⟨h1, h2, h3, h4, h5⟩ := h
 exact ⟨h1.trans ⟨rfl, rfl, rfl, by omega, fun k _ => hh k⟩, by rw [hh]; exact h2, by rw [hh]; exact h3, by rw [hsz]; exact h4, ownsRow_of_heap h5 (fun k _ => hh k)⟩
set_option maxHeartbeats 4000000 in
theorem open_yes (c : UInt8) (l : Bs) (w : World) (hd : Tm.deep (c :: l) ≠ 0) :
   Calls Tryz.prog 61 #[St (c :: l)] w fun en w' => ∃ kids, en = .returned (.tuple #[.agg #[.int .u8 (c.toNat : Int), .int .i64 (setN (c :: l) 0), .string (setX (c :: l) ⟨#[]⟩), kids], .bool true]) ∧
     w'.ownsRow w.heap.size 22 1 kids (Tm.kidsOf 63 (c :: l)).length ((Tm.kidsOf 63 (c :: l)).map St) ∧ Below w.heap.size w w' := by
 have hx := setX_len (c :: l)
 have hkl := kids_len (c :: l)
 have h16 := (Tm.deep_is hd).2
 have HD := hid hd
 generalize hK : Tm.kidsOf 63 (c :: l) = ks at *
 have HK := hid hK
 generalize hX : setX (c :: l) ⟨#[]⟩ = X at *
 generalize hN : setN (c :: l) 0 = N at *
 have HXN := hid (And.intro hX hN)
 have hxs : X.size ≤ 20000 := by omega
 have HXS := hid hxs
 have hks : ∀ i (hi : i < ks.length), (⟨ks[i].toArray⟩ : ByteArray).size ≤ 20000 := fun i hi => by rw [st_size]; have := hkl _ (List.getElem_mem hi); omega
 have HKS := hid hks
 clear hx hkl hd hK hX hN hxs hks h16
 go_enter Tryz.func61, Tryz.ntmps61
 go_wp2_with fail
 refine (parts_cons c l _ HD.out).mono ?_
 rintro e w1 ⟨hb, kids, rfl, hown⟩
 rw [HXN.out.1, HXN.out.2]
 rw [HK.out] at hown
 obtain ⟨ao, kc, rfl, hkm, _⟩ := own_row hown
 have hbl : Below w.heap.size w w1 := ((Below.refl _ w).alloc (Nat.le_refl _) (.cells #[.int .u8 0, .int .i64 0, .string ⟨#[]⟩, .slice none 0 0] 82)).trans (hb.mono (by simp))
 have hres : w1.heap[w.heap.size]? = some (.cells #[.int .u8 0, .int .i64 0, .string ⟨#[]⟩, .slice none 0 0] 82 (0, 0)) := by
   rw [hb.block w.heap.size (by simp)]; exact heap_alloc_new w _
 have hlt : w.heap.size < w1.heap.size := by have := hb.size; simp at this; omega
 obtain ⟨cp, hcp⟩ : ∃ cp : Array Value, cp = #[.int .u8 (c.toNat : Int), .int .i64 N, .string X, .slice ao ks.length kc] := ⟨_, rfl⟩
 have hkept : Kept w w1.heap.size cp (.slice ao ks.length kc) ks (w1.alloc (.cells cp 82)) := by
   refine ⟨hbl.alloc hbl.size _, ?_, heap_alloc_new w1 _, ⟨hlt, by simp⟩, ?_⟩
   · rw [Below.heap_alloc _ _ _ hlt]; exact hres
   · have := hown.alloc (.cells cp 82)
     simpa using this
 have HKP := hid hkept
 have HCP := hid hcp
 rw [hcp] at hkept
 clear hb hown hbl hres hkept hcp
 go_wp2_with fail
 refine (clone_any X _ HXS.out).mono ?_
 rintro e w2 ⟨rfl, hb⟩
 have hk2 : Kept w w1.heap.size cp (.slice ao ks.length kc) ks w2 := by
   refine HKP.out.below ?_
   rw [HCP.out]
   exact hb
 clear hb
 have hp2 := hk2.hp
 have HK2 := hid hk2
 have q0 : w2.cell? ⟨w1.heap.size, 2, none⟩ = some (.string X) := by rw [cell_of_heap hp2, HCP.out]; rfl
 have q3 : w2.cell? ⟨w1.heap.size, 3, none⟩ = some (.slice ao ks.length kc) := by rw [cell_of_heap hp2, HCP.out]; rfl
 have qf : ∀ o, w2.frozen? ⟨w1.heap.size, o, none⟩ = false := fun o => frozen_of_heap hp2 o
 clear hp2 hk2
 go_wp2_with fail
 have HK3 : Hid (Kept w w1.heap.size cp (.slice ao ks.length kc) ks (w2.setCell ⟨w1.heap.size, 2, none⟩ (.string X))) := HK2.out.same HK2.out.hp (by rw [HCP.out]; rfl)
 clear q0 q3 qf
 go_loopg [23] ks.length (fun g iv wr => ∃ i : Nat, i ≤ ks.length ∧ g = ks.length - i ∧ iv = .int .i64 i ∧ Kept w w1.heap.size cp (.slice ao ks.length kc) ks wr)
 case atStart => exact ⟨0, Nat.zero_le _, rfl, rfl, HK3.out⟩
 case round =>
   obtain ⟨i, hi, rfl, rfl, hkr⟩ := hrel
   have HKR := hid hkr
   have hpr := hkr.hp
   have q0 : wr.cell? ⟨w1.heap.size, 0, none⟩ = some (.int .u8 (c.toNat : Int)) := by rw [cell_of_heap hpr, HCP.out]; rfl
   have q1 : wr.cell? ⟨w1.heap.size, 1, none⟩ = some (.int .i64 N) := by rw [cell_of_heap hpr, HCP.out]; rfl
   have q2 : wr.cell? ⟨w1.heap.size, 2, none⟩ = some (.string X) := by rw [cell_of_heap hpr, HCP.out]; rfl
   have q3 : wr.cell? ⟨w1.heap.size, 3, none⟩ = some (.slice ao ks.length kc) := by rw [cell_of_heap hpr, HCP.out]; rfl
   have qf : ∀ o, wr.frozen? ⟨w1.heap.size, o, none⟩ = false := fun o => frozen_of_heap hpr o
   by_cases hlt2 : i < ks.length
   · obtain ⟨ao', kc', hao, _, hrow⟩ := own_row hkr.own
     obtain ⟨g, cur, hag, g1, g3, g4, g5⟩ := hrow (by intro e; rw [e] at hlt2; simp at hlt2)
     have hao2 : ao = some ⟨g, 0, none⟩ := by
       have := (Value.slice.inj hao).1
       rw [this]; exact hag
     subst hao2
     clear hao hag hrow
     have hci : wr.cell? ⟨g, i, none⟩ = some (St ks[i]) := by rw [cell_of_heap g4]; exact g5 i hlt2
     have hfi : wr.frozen? ⟨g, i, none⟩ = false := frozen_of_heap g4 i
     have hlt' : (i : Int) < (ks.length : Int) := by omega
     have G4 := hid g4
     have G5 := hid (g5 i hlt2)
     have HLEN := hid (HKS.out i hlt2)
     have HRP := hid hpr
     have HLP := hid hkr.lp.2
     clear hkr hpr g4 g5
     go_wp2_with fail
     go_region_with (go_at_call 85; refine (fresh_any ⟨ks[i].toArray⟩ _ HLEN.out).mono ?_; rintro e w3 ⟨rfl, hb⟩; have hb' : Below wr.heap.size wr w3 := ⟨hb.os, hb.tape, hb.output, hb.size, hb.block⟩; have hci3 : w3.cell? ⟨g, i, none⟩ = some (St ks[i]) := (hb'.cell (p := ⟨g, i, none⟩) g3).trans hci; have hfi3 : w3.frozen? ⟨g, i, none⟩ = false := (hb'.frozen (p := ⟨g, i, none⟩) g3).trans hfi; have q33 : w3.cell? ⟨w1.heap.size, 3, none⟩ = some (.slice (some ⟨g, 0, none⟩) ks.length kc) := (hb'.cell (p := ⟨w1.heap.size, 3, none⟩) HLP.out).trans q3; have HB3 := hid hb'; clear hb hb')
     all_goals
       go_wp2_with fail
       go_roundg (ks.length - (i + 1))
       case measure => omega
       case rel =>
         refine ⟨i + 1, by omega, rfl, by simp, ?_⟩
         have k3 := HKR.out.below HB3.out
         have gg : w3.heap[g]? = some (.cells cur 22 (0, 0)) := by rw [HB3.out.block g g3]; exact G4.out
         have k4 := k3.same gg G5.out
         first | exact k4 | exact k4.drew
   · have hi2 : i = ks.length := by omega
     have hlt' : ¬ (i : Int) < (ks.length : Int) := by omega
     have hrr := hkr.hr
     have r0 : wr.cell? ⟨w.heap.size, 0, none⟩ = some (.int .u8 0) := by rw [cell_of_heap hrr]; rfl
     have r1 : wr.cell? ⟨w.heap.size, 1, none⟩ = some (.int .i64 0) := by rw [cell_of_heap hrr]; rfl
     have r2 : wr.cell? ⟨w.heap.size, 2, none⟩ = some (.string ⟨#[]⟩) := by rw [cell_of_heap hrr]; rfl
     have r3 : wr.cell? ⟨w.heap.size, 3, none⟩ = some (.slice none 0 0) := by rw [cell_of_heap hrr]; rfl
     have rf : ∀ o, wr.frozen? ⟨w.heap.size, o, none⟩ = false := fun o => frozen_of_heap hrr o
     clear hkr hpr hrr hi2
     go_wp2_with fail
     have hkk := HKR.out
     refine bodyPost_ret (v := .tuple #[.agg #[.int .u8 (c.toNat : Int), .int .i64 N, .string X, .slice ao ks.length kc], .bool true]) (by simp [results, Tryz.results61, go_sem, r0, r1, r2, r3]) rfl ⟨.slice ao ks.length kc, rfl, ?_, ?_⟩
     · refine ownsRow_base (base := w.heap.size + 1) ?_ (by omega)
       refine ownsRow_setCell_below (ownsRow_setCell_below (ownsRow_setCell_below (ownsRow_setCell_below hkk.own ?_ _) ?_ _) ?_ _) ?_ _
       all_goals (dsimp only; omega)
     · exact (((hkk.bel.setCell (by simp) _).setCell (by simp) _).setCell (by simp) _).setCell (by simp) _
end Go.Proofs.YtkifchjpgdmcoaaGreatDoor
