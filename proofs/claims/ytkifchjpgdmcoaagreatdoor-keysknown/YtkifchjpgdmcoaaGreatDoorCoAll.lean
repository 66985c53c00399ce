import Derived.Test.YtkifchjpgdmcoaaGreatDoorMiAll
import Derived.Shelf.SlMaps.Clone
/- A mind is copied. -/
namespace Go.Proofs.YtkifchjpgdmcoaaGreatDoor
open Go.RowKit Go.Maps Go.WideElems
set_option maxRecDepth 100000 in
set_option maxHeartbeats 2000000 in
theorem clone_some (b : Nat) (es : Array MapEntry) (clock : Nat) (w : World) (hb : w.heap[b]? = some (.map es clock)) :
   Calls Tryz.prog 33 #[.map (some b)] w fun e w' => e = .returned (.map (some w.heap.size)) ∧ w' = w.alloc (.map es clock) := by
 have hq := fun w => run_eql_map_nil_sl (P := Tryz.prog) w 59 _ _ (some b) Tryz.underlying59
 go_enter Tryz.func33, Tryz.ntmps33
 go_wp2
 rw [run_callFunc_extern Tryz.func63 (by kernel_rfl) (by kernel_rfl) (by kernel_rfl) (e := Extern.MapsClone.clone) (by kernel_rfl), run_maps_clone_sl w 59 hb]
 simp only [Result.andThen]
 rw [Oper.upon_value]
 go_wp2
 rw [run_typeAssert_map_sl _ 59 20 _ _ _ Tryz.underlying59]
 simp only [Result.andThen]
 rw [Oper.upon_value]
 go_wp2
 go_ret
 exact ⟨rfl, rfl⟩
set_option maxRecDepth 100000 in
set_option maxHeartbeats 2000000 in
theorem clone_none (w : World) : Calls Tryz.prog 33 #[.map none] w fun e w' => e = .returned (.map none) ∧ w' = w := by
 have hq := fun w => run_eql_map_nil_sl (P := Tryz.prog) w 59 _ _ none Tryz.underlying59
 go_enter Tryz.func33, Tryz.ntmps33
 go_wp2
 go_ret
 exact ⟨rfl, rfl⟩
def Cp (w : World) (N : NM) (p' : Nat) (w' : World) : Prop := ∃ o', Rm w' p' o' N ∧ w.heap.size ≤ p' ∧ (∀ b, o' = some b → w.heap.size ≤ b) ∧ Below w.heap.size w w'
set_option maxRecDepth 100000 in
set_option maxHeartbeats 2000000 in
theorem copy_any (w : World) (p : Nat) (o : Option Nat) (N : NM) (h : Rm w p o N) :
   Calls Tryz.prog 12 #[.pointer (some ⟨p, 0, none⟩)] w fun e w' => ∃ p', e = .returned (.pointer (some ⟨p', 0, none⟩)) ∧ Cp w N p' w' := by
 have hc := h.cell
 cases o with
 | none =>
   have HC := hid (clone_none w)
   have HR := hid h
   clear h
   go_enter Tryz.func12, Tryz.ntmps12
   go_wp2_with (first | (go_at_call 33; refine HC.out.mono ?_; rintro e w1 ⟨rfl, hw1⟩; obtain rfl := hw1.symm))
   go_ret
   refine ⟨w.heap.size, rfl, none, ⟨heap_alloc_new w _, HR.out.om⟩, Nat.le_refl _, fun b e => (by cases e), (Below.refl _ _).alloc (Nat.le_refl _) _⟩
 | some b =>
   obtain ⟨n, D, ⟨es, clock, g1, g2⟩, h2, h3⟩ := (show Om w b N from h.om).own
   have HC := hid (clone_some b es clock w g1)
   have HO : Hid (Om (w.alloc (.map es clock)) w.heap.size N) := hid ⟨n, D, ⟨es, clock, heap_alloc_new w _, g2⟩, h2, h3⟩
   clear h g1 g2 h2 h3
   go_enter Tryz.func12, Tryz.ntmps12
   go_wp2_with (first | (go_at_call 33; refine HC.out.mono ?_; rintro e w1 ⟨rfl, hw1⟩; have HO1 : Hid (Om w1 w.heap.size N) := (by rw [hw1]; exact HO); have HB1 : Hid (Below w.heap.size w w1) := (by apply hid; rw [hw1]; exact (Below.refl _ _).alloc (Nat.le_refl _) _); clear hw1))
   go_ret
   refine ⟨w1.heap.size, rfl, some w.heap.size, ⟨heap_alloc_new w1 _, ?_⟩, HB1.out.size, fun b e => (by cases e; exact Nat.le_refl _), HB1.out.alloc HB1.out.size _⟩
   exact HO1.out.same (Below.heap_alloc w1 _ _ HO1.out.lt)
theorem Mi.copy {U l : List Bs} {w w' : World} {p p' : Nat} {o : Option Nat} {N : NM} (h : Mi U l w p o N) (hc : Cp w N p' w') : ∃ o', Mi U l w' p' o' N ∧ w.heap.size ≤ p' ∧ (∀ b, o' = some b → w.heap.size ≤ b) ∧ Below w.heap.size w w' := by
 obtain ⟨o', h1, h2, h3, h4⟩ := hc
 exact ⟨o', ⟨h1, h.ok, h.mind, h.g0.below h4, h.loc⟩, h2, h3, h4⟩
end Go.Proofs.YtkifchjpgdmcoaaGreatDoor

/- Keys: some minds side by side, each in memory of its own. -/
namespace Go.Proofs.YtkifchjpgdmcoaaGreatDoor
open Go.RowKit Go.Maps Go.WideElems
def put1 {α : Type} (f : Nat → α) (n : Nat) (v : α) : Nat → α := fun i => if i = n then v else f i
theorem put1_same {α : Type} (f : Nat → α) (n : Nat) (v : α) : put1 f n v n = v := if_pos rfl
theorem put1_ne {α : Type} (f : Nat → α) {n i : Nat} (v : α) (h : i ≠ n) : put1 f n v i = f i := if_neg h
structure Ms (U : List Bs) (A : Nat) (P : Nat → Nat) (L : Nat → List Bs) (n : Nat) (w : World) : Prop where
 mi : ∃ (O : Nat → Option Nat) (N : Nat → NM), (∀ i, i < n → Mi U (L i) w (P i) (O i) (N i)) ∧ (∀ i, i < n → ∀ b, O i = some b → A ≤ b) ∧ ∀ i j, i < n → j < n → i ≠ j → ∀ b, O i = some b → O j ≠ some b
 low : ∀ i, i < n → A ≤ P i
 ne : ∀ i j, i < n → j < n → i ≠ j → P i ≠ P j
theorem Ms.below {U : List Bs} {A n : Nat} {P : Nat → Nat} {L : Nat → List Bs} {w w' : World} (h : Ms U A P L n w) (hb : Below w.heap.size w w') : Ms U A P L n w' := by
 obtain ⟨O, N, h1, h2, h3⟩ := h.mi
 exact ⟨⟨O, N, fun i hi => (h1 i hi).below hb, h2, h3⟩, h.low, h.ne⟩
theorem Rm.map {w : World} {p b : Nat} {N : NM} (h : Rm w p (some b) N) : ∃ es clock, w.heap[b]? = some (.map es clock) := by
 obtain ⟨n, D, ⟨es, clock, hb, _⟩, _⟩ := Om.own h.om
 exact ⟨es, clock, hb⟩
theorem Mi.off {U l : List Bs} {w w' : World} {p : Nat} {o : Option Nat} {N : NM} (h : Mi U l w p o N) (hp : w'.heap[p]? = w.heap[p]?) (ho : ∀ b, o = some b → w'.heap[b]? = w.heap[b]?) (hg : w'.heap[2]? = w.heap[2]?) : Mi U l w' p o N := by
 refine ⟨⟨hp.trans h.rm.ptr, ?_⟩, h.ok, h.mind, ?_, h.loc⟩
 · have h1 := h.rm.om
   cases o with
   | none => exact h1
   | some b => exact Om.same h1 (ho b rfl)
 · obtain ⟨m, fr, hm⟩ := h.g0
   exact ⟨m, fr, hg.trans hm⟩
theorem Ms.learn {U : List Bs} (hU : Uni U) {A n : Nat} {P : Nat → Nat} {L : Nat → List Bs} {w : World} (h : Ms U A P L n w) (hA : 2 < A) (hAw : A ≤ w.heap.size) {i : Nat} (hi : i < n) {t : Bs} (ht : t ∈ U) (hl : (L i).length < 1024) :
   Calls Tryz.prog 11 #[.pointer (some ⟨P i, 0, none⟩), St t] w fun e w' => e = .returned (.int .i64 0) ∧ Ms U A P (put1 L i (t :: L i)) n w' ∧ Below A w w' ∧ w.heap.size ≤ w'.heap.size ∧ ∀ g cs ty, w.heap[g]? = some (.cells cs ty (0, 0)) → g ≠ P i → w'.heap[g]? = some (.cells cs ty (0, 0)) := by
 obtain ⟨O, N, h1, h2, h3⟩ := h.mi
 have hm := h1 i hi
 refine (learn_mind hU hm ht hl).mono ?_
 rintro e w' ⟨rfl, o', N', hmi, hlf, ho⟩
 have hlo := h.low i hi
 have keep : ∀ g, g < w.heap.size → g ≠ P i → some g ≠ O i → w'.heap[g]? = w.heap[g]? := hlf.block
 refine ⟨rfl, ⟨⟨put1 O i o', put1 N i N', fun j hj => ?_, fun j hj b hb => ?_, fun j k hj hk hjk b hb => ?_⟩, h.low, h.ne⟩, ⟨hlf.os, hlf.tape, hlf.output, hlf.size, fun k hk => keep k (by omega) (by omega) (fun e => ?_)⟩, hlf.size, fun g cs ty hg hne => ?_⟩
 · by_cases e : j = i
   · subst e
     rw [put1_same, put1_same, put1_same]
     exact hmi
   · rw [put1_ne _ _ e, put1_ne _ _ e, put1_ne _ _ e]
     have hj' := h1 j hj
     refine hj'.off (keep _ hj'.rm.lt (h.ne j i hj hi e) (fun e2 => ?_)) (fun b hb => keep b ?_ (fun e2 => ?_) (fun e2 => h3 j i hj hi e b hb e2.symm)) (keep 2 (by omega) (by omega) (fun e2 => by have := h2 i hi 2 e2.symm; omega))
     · have hm2 := hm.rm
       rw [← e2] at hm2
       obtain ⟨es, clock, hb⟩ := hm2.map
       rw [hj'.rm.ptr] at hb
       cases hb
     · rw [hb] at hj'
       obtain ⟨es, clock, hb2⟩ := hj'.rm.map
       exact lt_of_block hb2
     · rw [hb] at hj'
       obtain ⟨es, clock, hb2⟩ := hj'.rm.map
       rw [e2, hm.rm.ptr] at hb2
       cases hb2
 · by_cases e : j = i
   · subst e
     rw [put1_same] at hb
     rcases ho with ho | ⟨b', ho, hb'⟩
     · exact h2 j hj b (by rw [← ho]; exact hb)
     · rw [ho] at hb; cases hb; omega
   · rw [put1_ne _ _ e] at hb
     exact h2 j hj b hb
 · have lt : ∀ q, q < n → ∀ c, O q = some c → c < w.heap.size := fun q hq c hc => by
     have hq' := h1 q hq
     rw [hc] at hq'
     obtain ⟨es, clock, hb2⟩ := hq'.rm.map
     exact lt_of_block hb2
   by_cases e : j = i
   · subst e
     rw [put1_same] at hb
     rw [put1_ne _ _ (Ne.symm hjk)]
     rcases ho with ho | ⟨b', ho, hb'⟩
     · exact h3 j k hj hk hjk b (by rw [← ho]; exact hb)
     · rw [ho] at hb
       cases hb
       intro hk2
       have := lt k hk _ hk2
       omega
   · rw [put1_ne _ _ e] at hb
     by_cases e2 : k = i
     · subst e2
       rw [put1_same]
       rcases ho with ho | ⟨b', ho, hb'⟩
       · rw [ho]; exact h3 j k hj hk hjk b hb
       · rw [ho]
         intro h4
         cases h4
         have := lt j hj _ hb
         omega
     · rw [put1_ne _ _ e2]
       exact h3 j k hj hk hjk b hb
 · have := h2 i hi k e.symm
   omega
 · rw [← hg]
   refine keep g (lt_of_block hg) hne (fun e => ?_)
   rw [← e] at hm
   obtain ⟨es, clock, hb⟩ := hm.rm.map
   rw [hg] at hb
   cases hb
theorem Ms.copy {U : List Bs} {A n : Nat} {P : Nat → Nat} {L : Nat → List Bs} {w : World} (h : Ms U A P L n w) (hAw : A ≤ w.heap.size) {i : Nat} (hi : i < n) :
   Calls Tryz.prog 12 #[.pointer (some ⟨P i, 0, none⟩)] w fun e w' => ∃ p', e = .returned (.pointer (some ⟨p', 0, none⟩)) ∧ w.heap.size ≤ p' ∧ Ms U A (put1 P n p') (put1 L n (L i)) (n + 1) w' ∧ Below w.heap.size w w' := by
 obtain ⟨O, N, h1, h2, h3⟩ := h.mi
 have hm := h1 i hi
 refine (copy_any w (P i) (O i) (N i) hm.rm).mono ?_
 rintro e w' ⟨p', rfl, hc⟩
 obtain ⟨o', hmi, hp, ho, hb⟩ := hm.copy hc
 have lt : ∀ q, q < n → ∀ c, O q = some c → c < w.heap.size := fun q hq c hc => by
   have hq' := h1 q hq
   rw [hc] at hq'
   obtain ⟨es, clock, hb2⟩ := hq'.rm.map
   exact lt_of_block hb2
 refine ⟨p', rfl, hp, ⟨⟨put1 O n o', put1 N n (N i), fun j hj => ?_, fun j hj b hbb => ?_, fun j k hj hk hjk b hbb => ?_⟩, fun j hj => ?_, fun j k hj hk hjk => ?_⟩, hb⟩
 · by_cases e : j = n
   · subst e
     rw [put1_same, put1_same, put1_same, put1_same]
     exact hmi
   · rw [put1_ne _ _ e, put1_ne _ _ e, put1_ne _ _ e, put1_ne _ _ e]
     exact (h1 j (by omega)).below hb
 · by_cases e : j = n
   · subst e
     rw [put1_same] at hbb
     have := ho b hbb
     omega
   · rw [put1_ne _ _ e] at hbb
     exact h2 j (by omega) b hbb
 · by_cases e : j = n
   · subst e
     rw [put1_same] at hbb
     rw [put1_ne _ _ (Ne.symm hjk)]
     intro h4
     have := lt k (by omega) b h4
     have := ho b hbb
     omega
   · rw [put1_ne _ _ e] at hbb
     by_cases e2 : k = n
     · subst e2
       rw [put1_same]
       intro h4
       have := lt j (by omega) b hbb
       have := ho b h4
       omega
     · rw [put1_ne _ _ e2]
       exact h3 j k (by omega) (by omega) hjk b hbb
 · by_cases e : j = n
   · subst e; rw [put1_same]; omega
   · rw [put1_ne _ _ e]; exact h.low j (by omega)
 · have ltP : ∀ q, q < n → P q < w.heap.size := fun q hq => (h1 q hq).rm.lt
   by_cases e : j = n
   · subst e
     rw [put1_same, put1_ne _ _ (Ne.symm hjk)]
     have := ltP k (by omega)
     omega
   · rw [put1_ne _ _ e]
     by_cases e2 : k = n
     · subst e2
       rw [put1_same]
       have := ltP j (by omega)
       omega
     · rw [put1_ne _ _ e2]
       exact h.ne j k (by omega) (by omega) hjk
theorem Ms.knows {U : List Bs} {A n : Nat} {P : Nat → Nat} {L : Nat → List Bs} {w : World} (h : Ms U A P L n w) {i : Nat} (hi : i < n) (t : Bs) (ht : t.length ≤ 100000) :
   Calls Tryz.prog 13 #[.pointer (some ⟨P i, 0, none⟩), St t] w fun e w' => ∃ b : Bool, e = .returned (.bool b) ∧ (b = true ↔ Can (fun x => x ∈ L i) t) ∧ Below w.heap.size w w' := by
 obtain ⟨O, N, h1, h2, h3⟩ := h.mi
 exact (knows_any w (P i) (O i) (N i) t (h1 i hi).rm ht).mono (fun e w' ⟨he, hb⟩ => ⟨_, he, (h1 i hi).knows t, hb⟩)
theorem Ms.yes {U : List Bs} {A n : Nat} {P : Nat → Nat} {L : Nat → List Bs} {w : World} (h : Ms U A P L n w) {i : Nat} (hi : i < n) {t : Bs} (ht : t.length ≤ 100000) (hc : Can (fun x => x ∈ L i) t) :
   Calls Tryz.prog 13 #[.pointer (some ⟨P i, 0, none⟩), St t] w fun e w' => e = .returned (.bool true) ∧ Below w.heap.size w w' :=
 (h.knows hi t ht).mono (fun e w' ⟨b, he, hb, h2⟩ => ⟨by rw [he, hb.2 hc], h2⟩)
theorem Ms.no {U : List Bs} {A n : Nat} {P : Nat → Nat} {L : Nat → List Bs} {w : World} (h : Ms U A P L n w) {i : Nat} (hi : i < n) {t : Bs} (ht : t.length ≤ 100000) (hc : ¬ Can (fun x => x ∈ L i) t) :
   Calls Tryz.prog 13 #[.pointer (some ⟨P i, 0, none⟩), St t] w fun e w' => e = .returned (.bool false) ∧ Below w.heap.size w w' :=
 (h.knows hi t ht).mono (fun e w' ⟨b, he, hb, h2⟩ => ⟨by rw [he]; cases b; rfl; exact absurd (hb.1 rfl) hc, h2⟩)
theorem ms_new (U : List Bs) (w : World) (hG : G0 w) : Calls Tryz.prog 10 #[] w fun e w' => e = .returned (.pointer (some ⟨w.heap.size, 0, none⟩)) ∧ Ms U w.heap.size (fun _ => w.heap.size) (fun _ => []) 1 w' ∧ Below w.heap.size w w' := by
 refine (new_any w).mono ?_
 rintro e w' ⟨rfl, hw⟩
 have hb : Below w.heap.size w w' := by rw [hw]; exact (Below.refl _ w).alloc (Nat.le_refl _) _
 refine ⟨rfl, ⟨⟨fun _ => none, fun _ => (fun _ => none), fun i hi => ⟨⟨by rw [hw]; exact heap_alloc_new w _, fun _ => rfl⟩, ⟨fun _ h => (by cases h), fun _ h => absurd rfl h⟩, Mind.new.congr (fun t => by simp), hG.below hb, ?_⟩, fun i hi b h => (by cases h), fun i j hi hj hne => absurd (by omega : i = j) hne⟩, fun i hi => Nat.le_refl _, fun i j hi hj hne => absurd (by omega : i = j) hne⟩, hb⟩
 intro A' S hL hx s hs
 cases hs
end Go.Proofs.YtkifchjpgdmcoaaGreatDoor
