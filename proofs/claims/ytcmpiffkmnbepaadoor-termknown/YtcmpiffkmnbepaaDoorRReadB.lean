/- What the document's reading of a name does. -/
import Derived.Test.YtcmpiffkmnbepaaDoorRRead
namespace Go.Proofs.YtcmpiffkmnbepaaDoor
open Go.RowKit

/-- the result's block while the reading goes on -/
theorem res_block (w : World) (o : Obj) (h : o = .cells cutZ 59) (w1 : World) (hb : Below (w.alloc o).heap.size (w.alloc o) w1) : Below w.heap.size w w1 ∧ w1.heap[w.heap.size]? = some (.cells cutZ 59 (0, 0)) :=
  ⟨(below_alloc_self' w _).trans (hb.mono (by simp)), by rw [hb.block _ (by simp), h]; exact heap_alloc_new w _⟩

set_option maxHeartbeats 2000000 in
theorem read_name (s : ByteArray) (a n : Nat) (w : World) (hs : s.size ≤ 20000) (ha : a < s.size) (hc : s[a] = 110) :
    Calls Tryd.prog 53 #[.string s, .int .i64 (a : Int), .int .i64 ((n + 1 : Nat) : Int)] w fun en w' => Below w.heap.size w w' ∧
    Ends (Tm.rd (n + 1) (rest s a)) (fun x => ∃ (N F : Int) (ao : Option Addr) (kn kc : Nat), en = .returned (cutV ((s.size - x.2.length : Nat) : Int) (x.1 : Int) N F (.slice ao kn kc)) ∧ Told s a n x N F (.slice ao kn kc) w.heap.size w')
      (∃ D N : Int, en = .returned (cutV (-1) D N 0 (.slice none 0 0))) := by
  have ha' : ¬ (s.size : Int) ≤ (a : Int) := by omega
  have hn : (((n + 1 : Nat) : Int) == 0) = false := by simp; omega
  have hcc : (s[a].toNat : Int) = 110 := by rw [hc]; rfl
  have hrd : Hid (Tm.rd (n + 1) (rest s a) = Tm.nameA (rest s (a + 1))) := by
    apply hid; rw [rest_cons ha, Tm.rd_cons, if_pos hc]
  have HC := hid hc
  clear hc
  go_enter Tryd.func53, Tryd.ntmps53
  go_wp2_with fail
  refine (rnumber_any s (a + 1) 59 59 rfl (by decide) hs _).mono ?_
  rintro e w1 ⟨rfl, hE⟩
  obtain ⟨_, hh⟩ := res_block w (.cells cutZ 59) rfl _ (Below.refl _ _)
  obtain ⟨q0, q1, q2, q3, q4, qf⟩ := cutZ_cells hh
  clear hh
  cases hnum : Tm.num 59 (rest s (a + 1)) with
  | none =>
    have he := hE.none hnum
    subst he
    have HN := hid hnum
    clear hnum hE
    go_wp2_with fail
    refine bodyPost_ret (v := cutV (-1) 1 0 0 (.slice none 0 0)) (by simp [results, Tryd.results53, go_sem]) rfl ⟨?_, ?_⟩
    · exact below_alloc_self' w _
    · rw [hrd.out]
      exact ends_none (by unfold Tm.nameA; rw [HN.out]) ⟨1, 0, rfl⟩
  | some x =>
    obtain ⟨k, r⟩ := x
    have he := hE.some hnum
    subst he
    have HN := hid hnum
    clear hnum hE
    go_wp2_with fail
    refine bodyPost_ret (v := cutV ((s.size - r.length : Nat) : Int) 1 (k : Int) 0 (.slice none 0 0)) (by simp [results, Tryd.results53, go_sem]) rfl ⟨?_, ?_⟩
    · exact below_alloc_self' w _
    · rw [hrd.out]
      refine ends_some (x := (1, r)) (by unfold Tm.nameA; rw [HN.out]) ⟨k, 0, none, 0, 0, rfl, ha, Or.inl ⟨HC.out, ?_, rfl⟩⟩
      unfold Tm.nameN; rw [HN.out]

end Go.Proofs.YtcmpiffkmnbepaaDoor
