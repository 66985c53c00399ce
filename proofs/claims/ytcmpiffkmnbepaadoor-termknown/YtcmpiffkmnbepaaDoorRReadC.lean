/- What the document's reading of a text does. -/
import Derived.Test.YtcmpiffkmnbepaaDoorRReadB
namespace Go.Proofs.YtcmpiffkmnbepaaDoor
open Go.RowKit
set_option maxHeartbeats 2000000 in
theorem read_text (s : ByteArray) (a n : Nat) (w : World) (hs : s.size ≤ 20000) (ha : a < s.size) (hc : s[a] = 116) :
    Calls Tryd.prog 53 #[.string s, .int .i64 (a : Int), .int .i64 ((n + 1 : Nat) : Int)] w fun en w' => Below w.heap.size w w' ∧
    Ends (Tm.rd (n + 1) (rest s a)) (fun x => ∃ (N F : Int) (ao : Option Addr) (kn kc : Nat), en = .returned (cutV ((s.size - x.2.length : Nat) : Int) (x.1 : Int) N F (.slice ao kn kc)) ∧ Told s a n x N F (.slice ao kn kc) w.heap.size w')
      (∃ D N : Int, en = .returned (cutV (-1) D N 0 (.slice none 0 0))) := by
  have ha' : ¬ (s.size : Int) ≤ (a : Int) := by omega
  have hn : (((n + 1 : Nat) : Int) == 0) = false := by simp; omega
  have hcc : (s[a].toNat : Int) = 116 := by rw [hc]; rfl
  have hrd : Hid (Tm.rd (n + 1) (rest s a) = Tm.textA (rest s (a + 1))) := by
    apply hid; rw [rest_cons ha, Tm.rd_cons, if_neg (by rw [hc]; decide), if_pos hc]
  have HC := hid hc
  clear hc
  go_enter Tryd.func53, Tryd.ntmps53
  go_wp2_with fail
  refine (rnumber_any s (a + 1) 58 58 rfl (by decide) hs _).mono ?_
  rintro e w1 ⟨rfl, hE⟩
  cases hnum : Tm.num 58 (rest s (a + 1)) with
  | none =>
    have he := hE.none hnum
    subst he
    have HN := hid hnum
    clear hnum hE
    go_wp2_with fail
    refine (rnone_any _).mono ?_
    rintro e w2 ⟨rfl, hb⟩
    obtain ⟨hbl, hh⟩ := res_block w (.cells cutZ 59) rfl _ hb
    obtain ⟨q0, q1, q2, q3, q4, qf⟩ := cutZ_cells hh
    have HB := hid hbl
    clear hbl hh hb
    go_wp2_with fail
    refine bodyPost_ret (v := cutV (-1) 0 0 0 (.slice none 0 0)) (by simp [results, Tryd.results53, go_sem, q0, q1, q2, q3, q4]) rfl ⟨?_, ?_⟩
    · exact ((((HB.out.setCell (by simp) _).setCell (by simp) _).setCell (by simp) _).setCell (by simp) _).setCell (by simp) _
    · rw [hrd.out]
      exact ends_none (by unfold Tm.textA; rw [HN.out]) ⟨0, 0, rfl⟩
  | some x =>
    obtain ⟨k, r⟩ := x
    have he := hE.some hnum
    subst he
    have hr : r.length < (rest s (a + 1)).length := by
      obtain ⟨p, hp, he, _⟩ := Tm.num_app hnum
      rw [he]; have := List.length_pos_iff.2 hp; simp; omega
    have hrs : (rest s (s.size - r.length)) = r := by
      obtain ⟨p, hp, he, _⟩ := Tm.num_app hnum
      have h1 := congrArg List.length he
      rw [rest_len, List.length_append] at h1
      have : rest s (s.size - r.length) = (rest s (a + 1)).drop p.length := by
        show List.drop _ _ = List.drop _ (List.drop _ _)
        rw [List.drop_drop]; congr 1; omega
      rw [this, he]; simp
    rw [rest_len] at hr
    have HR := hid hrs
    have HN := hid hnum
    clear hnum hE hrs
    have hge : ¬ ((s.size - r.length : Nat) : Int) < 0 := by omega
    generalize hE : s.size - r.length = E at *
    have hEr : r.length = s.size - E := by omega
    have hEs : E ≤ s.size := by omega
    by_cases h1 : 4096 < k
    · have h1' : (4096 : Int) < (k : Int) := by omega
      go_wp2_with fail
      refine (rnone_any _).mono ?_
      rintro e w2 ⟨rfl, hb⟩
      obtain ⟨hbl, hh⟩ := res_block w (.cells cutZ 59) rfl _ hb
      obtain ⟨q0, q1, q2, q3, q4, qf⟩ := cutZ_cells hh
      have HB := hid hbl
      clear hbl hh hb
      go_wp2_with fail
      refine bodyPost_ret (v := cutV (-1) 0 0 0 (.slice none 0 0)) (by simp [results, Tryd.results53, go_sem, q0, q1, q2, q3, q4]) rfl ⟨?_, ?_⟩
      · exact ((((HB.out.setCell (by simp) _).setCell (by simp) _).setCell (by simp) _).setCell (by simp) _).setCell (by simp) _
      · rw [hrd.out]
        exact ends_none (by unfold Tm.textA; rw [HN.out]; simp only; rw [if_neg (by omega)]) ⟨0, 0, rfl⟩
    · have h1' : ¬ (4096 : Int) < (k : Int) := by omega
      have hw1 : IntKind.i64.wrap ((s.size : Int) - (E : Int)) = (s.size : Int) - (E : Int) := by rw [IntKind.wrap_i64]; omega
      have hw2 : IntKind.u64.wrap ((s.size : Int) - (E : Int)) = (s.size : Int) - (E : Int) := by rw [IntKind.wrap_u64]; omega
      by_cases h2 : s.size - E < k
      · have h2' : (s.size : Int) - (E : Int) < (k : Int) := by omega
        go_wp2_with fail
        refine (rnone_any _).mono ?_
        rintro e w2 ⟨rfl, hb⟩
        obtain ⟨hbl, hh⟩ := res_block w (.cells cutZ 59) rfl _ hb
        obtain ⟨q0, q1, q2, q3, q4, qf⟩ := cutZ_cells hh
        have HB := hid hbl
        clear hbl hh hb
        go_wp2_with fail
        refine bodyPost_ret (v := cutV (-1) 0 0 0 (.slice none 0 0)) (by simp [results, Tryd.results53, go_sem, q0, q1, q2, q3, q4]) rfl ⟨?_, ?_⟩
        · exact ((((HB.out.setCell (by simp) _).setCell (by simp) _).setCell (by simp) _).setCell (by simp) _).setCell (by simp) _
        · rw [hrd.out]
          exact ends_none (by unfold Tm.textA; rw [HN.out]; simp only; rw [if_neg (by omega)]) ⟨0, 0, rfl⟩
      · have h2' : ¬ (s.size : Int) - (E : Int) < (k : Int) := by omega
        have hw3 : IntKind.i64.wrap (k : Int) = (k : Int) := by rw [IntKind.wrap_i64]; omega
        have hw4 : IntKind.i64.wrap ((E : Int) + (k : Int)) = ((E + k : Nat) : Int) := by rw [IntKind.wrap_i64]; omega
        obtain ⟨_, hh⟩ := res_block w (.cells cutZ 59) rfl _ (Below.refl _ _)
        obtain ⟨q0, q1, q2, q3, q4, qf⟩ := cutZ_cells hh
        clear hh
        go_wp2_with fail
        refine bodyPost_ret (v := cutV ((E + k : Nat) : Int) 1 (k : Int) (E : Int) (.slice none 0 0)) (by simp [results, Tryd.results53, go_sem]) rfl ⟨?_, ?_⟩
        · exact below_alloc_self' w _
        · rw [hrd.out]
          have hl : (r.drop k).length = s.size - (E + k) := by rw [List.length_drop]; omega
          refine ends_some (x := (1, r.drop k)) (by unfold Tm.textA; rw [HN.out]; simp only; rw [if_pos (by omega)]) ⟨k, E, none, 0, 0, ?_, ha, Or.inr (Or.inl ⟨HC.out, rfl, E, rfl, ?_, ?_⟩)⟩
          · simp only [hl]; congr 3; congr 1; omega
          · simp only [hl]; omega
          · unfold Tm.textX; rw [HN.out, HR.out]; simp only [hl]; congr 1; omega
end Go.Proofs.YtcmpiffkmnbepaaDoor
