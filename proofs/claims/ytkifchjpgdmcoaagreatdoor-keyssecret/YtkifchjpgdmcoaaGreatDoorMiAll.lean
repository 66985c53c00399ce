import Derived.Test.YtkifchjpgdmcoaaGreatDoorLeAll
import Derived.Test.YtkifchjpgdmcoaaGreatDoorDedAll
/- Held. -/
namespace Go.Proofs.YtkifchjpgdmcoaaGreatDoor
open Go.RowKit Go.Maps Go.WideElems
set_option maxHeartbeats 400000 in
theorem knows_any (w : World) (p : Nat) (o : Option Nat) (N : NM) (t : Bs) (h : Rm w p o N) (ht : t.length ≤ 100000) :
   Calls Tryz.prog 13 #[.pointer (some ⟨p, 0, none⟩), St t] w fun e w' => e = .returned (.bool (mkF N t)) ∧ Below w.heap.size w w' := by
 have HC := hid (makes_any w p o N t h ht)
 clear h ht
 go_enter Tryz.func13, Tryz.ntmps13
 go_wp2_with fail
 refine HC.out.mono ?_
 rintro e w1 ⟨rfl, hb⟩
 have HB := hid hb
 clear hb
 go_wp2_with fail
 go_ret
 exact ⟨rfl, HB.out⟩
set_option maxHeartbeats 400000 in
theorem new_any (w : World) : Calls Tryz.prog 10 #[] w fun e w' => e = .returned (.pointer (some ⟨w.heap.size, 0, none⟩)) ∧ w' = w.alloc (.cells #[.map none] 61) := by
 go_enter Tryz.func10, Tryz.ntmps10
 go_wp2
 go_ret
 exact ⟨rfl, rfl⟩
end Go.Proofs.YtkifchjpgdmcoaaGreatDoor

/- Learn, of a mind that has heard a list of terms. -/
namespace Go.Proofs.YtkifchjpgdmcoaaGreatDoor
open Go.RowKit Go.Maps Go.WideElems
theorem Mind.congr {H G : Bs → Prop} (h : ∀ t, H t ↔ G t) {N : NM} (m : Mind H N) : Mind G N :=
 ⟨m.full, fun t => (h t).symm.trans (m.heard t), fun t a => m.held t ((h t).2 a), fun s a => (m.snd s a).mono (fun t => (h t).1)⟩
structure Mi (U : List Bs) (l : List Bs) (w : World) (p : Nat) (o : Option Nat) (N : NM) : Prop where
 rm : Rm w p o N
 ok : Ok U N
 mind : Mind (fun x => x ∈ l) N
 g0 : G0 w
 loc : ∀ A S, Local A S → (∀ x ∈ l, S x ∧ A x) → ∀ s, Hld N s → S s ∧ A s
theorem Mi.below {U l : List Bs} {w w' : World} {p : Nat} {o : Option Nat} {N : NM} (h : Mi U l w p o N) (hb : Below w.heap.size w w') : Mi U l w' p o N := ⟨h.rm.below hb, h.ok, h.mind, h.g0.below hb, h.loc⟩
theorem heardN_few {l : List Bs} {N : NM} (h : Mind (fun x => x ∈ l) N) {L : List (Bs × Note)} (hL : Over N L) : heardN L ≤ l.length := by
 have hn : ((L.filter (·.2.heard)).map (·.1)).Nodup := (List.Sublist.map _ List.filter_sublist).nodup hL.nodup
 have := length_sub hn (U := l) (fun x hx => by
   obtain ⟨y, hy, rfl⟩ := List.mem_map.1 hx
   have hy' := List.mem_filter.1 hy
   refine (h.heard y.1).2 ?_
   rw [nget, (hL.mem y.1 y.2).1 hy'.1]
   exact hy'.2)
 simpa [heardN] using this
theorem Lf.of_below {w w' : World} (p : Nat) (o : Option Nat) (h : Below w.heap.size w w') : Lf w w' p o := ⟨h.os, h.tape, h.output, h.size, fun i hi _ _ => h.block i hi⟩
theorem learn_mind {U : List Bs} (hU : Uni U) {l : List Bs} {w : World} {p : Nat} {o : Option Nat} {N : NM} (h : Mi U l w p o N) {t : Bs} (ht : t ∈ U) (hl : l.length < 1024) :
   Calls Tryz.prog 11 #[.pointer (some ⟨p, 0, none⟩), St t] w fun e w' => e = .returned (.int .i64 0) ∧ ∃ o' N', Mi U (t :: l) w' p o' N' ∧ Lf w w' p o ∧ (o' = o ∨ ∃ b, o' = some b ∧ w.heap.size ≤ b) := by
 have hcg : ∀ x, (x = t ∨ x ∈ l) ↔ x ∈ t :: l := fun x => by simp
 cases hh : (nget N t).heard with
 | true =>
   refine (learn_heard w p o N h.rm t (hU.right t ht) hh).mono ?_
   rintro e w' ⟨rfl, hb⟩
   have hin : t ∈ l := (h.mind.heard t).2 hh
   exact ⟨rfl, o, N, ⟨h.rm.below hb, h.ok, h.mind.congr (fun x => by simp; exact fun e => by rw [e]; exact hin), h.g0.below hb, fun A S hL hx => h.loc A S hL (fun x hx' => hx x (List.mem_cons_of_mem _ hx'))⟩, Lf.of_below p o hb, Or.inl rfl⟩
 | false =>
   cases o with
   | none =>
     have hN : N = fun _ => none := funext h.rm.om
     refine (learn_none hU w p N h.rm h.ok h.g0 t ht).mono ?_
     rintro e w' ⟨rfl, M, b, hf, hm, hok, hb, hlf, hg⟩
     have hov : Over N [] := ⟨by simp, fun t n => by rw [hN]; simp⟩
     have hmi := h.mind.learn hU h.ok ht hov hf
     exact ⟨rfl, some b, _, ⟨hm.rm, hok, hmi.congr hcg, hg, fun A S hL hx => learn_local hU hL h.ok h.mind (h.loc A S hL (fun x hx' => hx x (List.mem_cons_of_mem _ hx'))) ht (hx t (by simp)) hov hf⟩, hlf, Or.inr ⟨b, rfl, hb⟩⟩
   | some b =>
     refine (learn_some hU w p b N ⟨h.rm.ptr, h.rm.om⟩ h.ok h.g0 t ht hh).mono ?_
     rintro e w' ⟨L, hov, hres⟩
     rcases hres with ⟨h1, _⟩ | ⟨_, rfl, M, hf, hm, hok, hlf, hg⟩
     · have := heardN_few h.mind hov
       omega
     · exact ⟨rfl, some b, _, ⟨hm.rm, hok, (h.mind.learn hU h.ok ht hov hf).congr hcg, hg, fun A S hL hx => learn_local hU hL h.ok h.mind (h.loc A S hL (fun x hx' => hx x (List.mem_cons_of_mem _ hx'))) ht (hx t (by simp)) hov hf⟩, hlf, Or.inl rfl⟩
theorem Mi.knows {U l : List Bs} {w : World} {p : Nat} {o : Option Nat} {N : NM} (h : Mi U l w p o N) (t : Bs) : mkF N t = true ↔ Can (fun x => x ∈ l) t := h.mind.knows t
end Go.Proofs.YtkifchjpgdmcoaaGreatDoor
