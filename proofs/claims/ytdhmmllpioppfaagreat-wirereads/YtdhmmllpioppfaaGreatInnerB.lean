/- What the reader's inner readings do, where a part's reading is known: the readings that cut the text. -/
import Derived.Test.YtdhmmllpioppfaaGreatInner
namespace Go.Proofs.YtdhmmllpioppfaaGreat
open Go.RowKit

theorem bytesLess_blt : ∀ a b : Bs, Op.bytesLess a b = Tm.blt a b
  | [], [] => rfl
  | [], _ :: _ => rfl
  | _ :: _, [] => rfl
  | a :: x, b :: y => by simp only [Op.bytesLess, Tm.blt, bytesLess_blt x y]

theorem ba_eq {x : ByteArray} {l : Bs} (h : x.data.toList = l) : x = ⟨l.toArray⟩ := by subst h; cases x; simp
theorem extract_eq (s : ByteArray) (a b : Nat) : s.extract a b = ⟨((rest s a).take (b - a)).toArray⟩ := ba_eq (Lib.extract_data s a b)

theorem agree_le {s : ByteArray} {a k m : Nat} {r r' : Bs} (h1 : Tm.used (rest s a) r = (rest s a).take (k - a)) (h2 : Tm.used r r' = r.take (m - k)) (h3 : rest s k = r) :
    Tm.leB (Tm.used (rest s a) r) (Tm.used r r') = (Op.bytesLess (s.extract a k).toList (s.extract k m).toList || (s.extract a k).toList == (s.extract k m).toList) := by
  rw [h1, h2, ← h3, Lib.extract_toList, Lib.extract_toList, bytesLess_blt]
  rfl

set_option maxHeartbeats 400000 in
theorem agree_any {n : Nat} (hP : PairC n) : OpC 116 n (Tm.agreeA (Tm.rd n)) keepN keepX (Tm.kids2 (Tm.rd n)) := by
  intro w0 B b s lv kp a nn tx ks w h hl hB
  have hle := h.le
  have hsz := h.sz
  obtain ⟨c0, c1, c2, c3, hf⟩ := h.cells
  have HR := hid h
  clear h
  cases hr : Tm.twoA (Tm.rd n) (rest s a) with
  | none =>
    have H1 := hid hr
    clear hr
    go_enter Tryz.func116, Tryz.ntmps116
    go_wp2_with fail
    refine (hP HR.out hl hB).mono ?_
    rintro e w' hE
    obtain ⟨rfl, hb⟩ := hE.none H1.out
    have HB := hid hb
    clear hE hb
    go_wp2_with fail
    go_quiet (fail)
    go_wp2_with fail
    go_ret
    exact ends_none (by unfold Tm.agreeA; rw [H1.out]) ⟨rfl, HB.out.drewN _⟩
  | some x =>
    obtain ⟨d, r, r'⟩ := x
    obtain ⟨q1, q2, q3, q4, q5, q6, q7, q8, q9, q10⟩ := two_rest hle hr
    have H1 := hid hr
    have Q9 := hid q9
    have Q10 := hid q10
    have Q6 := hid q6
    clear hr q6 q9 q10
    go_enter Tryz.func116, Tryz.ntmps116
    go_wp2_with fail
    refine (hP HR.out hl hB).mono ?_
    rintro e w1 hE
    obtain ⟨rfl, hb⟩ := hE.some H1.out
    have HB := hid hb
    obtain ⟨c0, c1, c2, c3, hf⟩ := hb.cells
    clear hE hb
    have hz : ((d : Int) == 0) = false := by simp; omega
    generalize hk : s.size - r.length = k at *
    generalize hm : s.size - r'.length = m at *
    have HK := hid hk
    have HM := hid hm
    clear hk hm
    go_wp2_with fail
    go_quiet (fail)
    go_wp2_with fail
    · have ht : (!Op.bytesLess (s.extract a k).toList (s.extract k m).toList) = true ∧ (!(s.extract a k).toList == (s.extract k m).toList) = true := by assumption
      have e := agree_le Q9.out Q10.out Q6.out
      simp only [Bool.not_eq_true'] at ht
      rw [ht.1, ht.2] at e
      go_ret
      refine ends_none ?_ ⟨rfl, (HB.out.drewN _).bad⟩
      unfold Tm.agreeA
      rw [H1.out]
      simp only [e]
      rfl
    · have ht : (!Op.bytesLess (s.extract a k).toList (s.extract k m).toList) = false ∨ (!(s.extract a k).toList == (s.extract k m).toList) = false := by assumption
      have e := agree_le Q9.out Q10.out Q6.out
      have e2 : (Op.bytesLess (s.extract a k).toList (s.extract k m).toList || (s.extract a k).toList == (s.extract k m).toList) = true := by
        rcases ht with ht | ht
        · simp only [Bool.not_eq_false'] at ht; rw [ht]; rfl
        · simp only [Bool.not_eq_false'] at ht; rw [ht, Bool.or_true]
      rw [e2] at e
      go_ret
      refine ends_some (x := (d, r')) ?_ ⟨rfl, ?_⟩
      · unfold Tm.agreeA
        rw [H1.out]
        simp only [e]
        rfl
      · show RS w0 B b s lv kp (s.size - r'.length) _ _ _ _
        rw [HM.out]
        simpa only [keepN, keepX, upd_same] using HB.out.drewN _

set_option maxHeartbeats 400000 in
theorem name_any (n : Nat) : OpC 110 n Tm.nameA (fun l _ => (Tm.nameN l : Int)) keepX (fun _ => []) := by
  intro w0 B b s lv kp a nn tx ks w h hl hB
  have hle := h.le
  have hsz := h.sz
  have HR := hid h
  clear h
  cases hr : Tm.num 59 (rest s a) with
  | none =>
    have H1 := hid hr
    clear hr
    go_enter Tryz.func110, Tryz.ntmps110
    go_wp2_with fail
    refine (number_any HR.out 59 59 rfl).mono ?_
    rintro e w' hE
    obtain ⟨rfl, a', hb⟩ := hE.none H1.out
    have HB := hid hb
    clear hE hb
    go_wp2_with fail
    go_ret
    exact ends_none (by unfold Tm.nameA; rw [H1.out]) ⟨rfl, HB.out.bad⟩
  | some x =>
    obtain ⟨k, r⟩ := x
    have H1 := hid hr
    clear hr
    have HE : Hid (Tm.nameA (rest s a) = some (1, r)) := by show _ = _; unfold Tm.nameA; rw [H1.out]
    have HN : Hid (Tm.nameN (rest s a) = k) := by show _ = _; unfold Tm.nameN; rw [H1.out]
    go_enter Tryz.func110, Tryz.ntmps110
    go_wp2_with fail
    refine (number_any HR.out 59 59 rfl).mono ?_
    rintro e w1 hE
    obtain ⟨rfl, hb⟩ := hE.some H1.out
    have HB := hid hb
    obtain ⟨kids, hk, _⟩ := hb.blk
    have c5 : w1.cell? ⟨b, 5, none⟩ = some (.int .i64 nn) := by rw [cell_of_heap hk]; rfl
    have f5 : w1.frozen? ⟨b, 5, none⟩ = false := frozen_of_heap hk _
    clear hE hb hk
    go_wp2_with fail
    refine (wanted_any HB.out).mono ?_
    rintro e w2 ⟨rfl, rfl⟩
    cases hw : wt kp lv
    · have hw2 : (kp && lv == 1) = false := hw
      have HW := hid hw
      clear hw
      rw [hw2]
      clear hw2
      go_wp2_with fail
      go_ret
      refine ends_some HE.out ⟨rfl, ?_⟩
      have := HB.out
      simpa [HW.out, upd] using this
    · have hw2 : (kp && lv == 1) = true := hw
      have HW := hid hw
      clear hw
      rw [hw2]
      clear hw2
      go_wp2_with fail
      go_ret
      refine ends_some HE.out ⟨rfl, ?_⟩
      have := HB.out.setN (k : Int)
      simpa [HW.out, HN.out, upd, keepX] using this

set_option maxHeartbeats 400000 in
theorem bytes_any (n : Nat) : OpC 111 n Tm.textA keepN (fun l _ => ⟨(Tm.textX l).toArray⟩) (fun _ => []) := by
  intro w0 B b s lv kp a nn tx ks w h hl hB
  have hle := h.le
  have hsz := h.sz
  have HR := hid h
  clear h
  cases hr : Tm.num 58 (rest s a) with
  | none =>
    have H1 := hid hr
    clear hr
    go_enter Tryz.func111, Tryz.ntmps111
    go_wp2_with fail
    refine (number_any HR.out 58 58 rfl).mono ?_
    rintro e w' hE
    obtain ⟨rfl, a', hb⟩ := hE.none H1.out
    have HB := hid hb
    clear hE hb
    go_wp2_with fail
    go_quiet (fail)
    go_wp2_with fail
    go_ret
    exact ends_none (by unfold Tm.textA; rw [H1.out]) ⟨rfl, (HB.out.drewN _).bad⟩
  | some x =>
    obtain ⟨k, r⟩ := x
    obtain ⟨p, _, hp, _⟩ := Tm.num_app hr
    obtain ⟨e1, e2, e3⟩ := rest_of hle hp
    have H1 := hid hr
    have E1 := hid e1
    have hj0 : s.size - r.length ≤ s.size := by omega
    have hjr : s.size - (s.size - r.length) = r.length := by omega
    have HJ := hid hjr
    clear hr e1 e2 e3 hp hjr
    go_enter Tryz.func111, Tryz.ntmps111
    go_wp2_with fail
    refine (number_any HR.out 58 58 rfl).mono ?_
    rintro e w1 hE
    obtain ⟨rfl, hb⟩ := hE.some H1.out
    have HB := hid hb
    obtain ⟨c0, c1, c2, c3, hf⟩ := hb.cells
    obtain ⟨kids, hk, _⟩ := hb.blk
    have c6 : w1.cell? ⟨b, 6, none⟩ = some (.string tx) := by rw [cell_of_heap hk]; rfl
    clear hE hb hk
    generalize hj : s.size - r.length = j at *
    have HJJ := hid hj
    clear hj
    by_cases h1 : 4096 < k
    · have h1' : (4096 : Int) < (k : Int) := by omega
      have g1 : decide ((4096 : Int) < (k : Int)) = true := by simpa using h1'
      have HE : Hid (Tm.textA (rest s a) = none) := by show _ = _; unfold Tm.textA; rw [H1.out]; simp only; rw [if_neg (by omega)]
      go_wp2_with fail
      go_quiet (fail)
      go_wp2_with fail
      go_ret
      exact ends_none HE.out ⟨rfl, (HB.out.drewN _).bad⟩
    · have g1 : decide ((4096 : Int) < (k : Int)) = false := by simp; omega
      have h1' : k ≤ 4096 := by omega
      by_cases h2 : s.size - j < k
      · have h2' : (s.size : Int) - (j : Int) < (k : Int) := by omega
        have HE : Hid (Tm.textA (rest s a) = none) := by
          show _ = _; unfold Tm.textA; rw [H1.out]; simp only; rw [if_neg]; have := HJ.out; omega
        clear h1
        go_wp2_with fail
        go_quiet (fail)
        go_wp2_with fail
        go_ret
        exact ends_none HE.out ⟨rfl, (HB.out.drewN _).bad⟩
      · have h2' : ¬ (s.size : Int) - (j : Int) < (k : Int) := by omega
        have h3 : j + k ≤ s.size := by omega
        have HE : Hid (Tm.textA (rest s a) = some (1, r.drop k)) := by
          show _ = _; unfold Tm.textA; rw [H1.out]; simp only; rw [if_pos]; have := HJ.out; omega
        have HX : Hid (Tm.textX (rest s a) = r.take k) := by show _ = _; unfold Tm.textX; rw [H1.out]
        clear h1 h2
        go_wp2_with fail
        go_quiet (fail)
        go_wp2_with fail
        refine (wanted_any ((HB.out.drewN _).setAt (a' := j + k) (by omega) (by omega) _ (by simp))).mono ?_
        rintro e w2 ⟨rfl, rfl⟩
        cases hw : wt kp lv
        · have hw2 : (kp && lv == 1) = false := hw
          have HW := hid hw
          clear hw
          rw [hw2]
          clear hw2
          go_wp2_with fail
          go_ret
          refine ends_some HE.out ⟨rfl, ?_⟩
          show RS w0 B b s lv kp (s.size - (r.drop k).length) _ _ _ _
          rw [show s.size - (r.drop k).length = j + k by rw [List.length_drop]; have := HJ.out; omega, HW.out]
          simpa [upd] using (HB.out.drewN _).setAt (a' := j + k) (by omega) (by omega) _ (by simp)
        · have hw2 : (kp && lv == 1) = true := hw
          have HW := hid hw
          clear hw
          rw [hw2]
          clear hw2
          go_wp2_with fail
          go_region
          all_goals
            go_wp2_with fail
            go_ret
            refine ends_some HE.out ⟨rfl, ?_⟩
            show RS w0 B b s lv kp (s.size - (r.drop k).length) _ _ _ _
            rw [show s.size - (r.drop k).length = j + k by rw [List.length_drop]; have := HJ.out; omega, HW.out]
            have hx : (⟨(Tm.textX (rest s a)).toArray⟩ : ByteArray) = s.extract j (j + k) := by
              rw [extract_eq, HX.out, E1.out, Nat.add_sub_cancel_left]
            simp only [upd, if_true, hx, List.append_nil, keepN]
            exact (((HB.out.drewN _).setAt (a' := j + k) (by omega) (by omega) _ (by simp)).setTx _).drew

theorem many_le {n : Nat} : ∀ (k d : Nat) (l : Bs) (e : Nat) (r : Bs), Tm.manyA (Tm.rd n) k d l = some (e, r) → r.length ≤ l.length := by
  intro k d l e r h
  obtain ⟨p, rfl, _⟩ := Tm.many_good (Tm.rd_good n) k d l e r h
  simp

set_option maxHeartbeats 1000000 in
theorem tuple_any {n : Nat} (hK : KidC n) : OpC 112 n (Tm.tupleA (Tm.rd n)) keepN keepX (Tm.tupleK (Tm.rd n)) := by
  intro w0 B b s lv kp a nn tx ks w h hl hB
  have hle := h.le
  have hsz := h.sz
  have HR := hid h
  have HB0 := hid hB
  clear h hB
  cases hr : Tm.num 58 (rest s a) with
  | none =>
    have H1 := hid hr
    clear hr
    go_enter Tryz.func112, Tryz.ntmps112
    go_wp2_with fail
    refine (number_any HR.out 58 58 rfl).mono ?_
    rintro e w' hE
    obtain ⟨rfl, a', hb⟩ := hE.none H1.out
    have HB := hid hb
    clear hE hb
    go_wp2_with fail
    go_ret
    exact ends_none (by unfold Tm.tupleA; rw [H1.out]) ⟨rfl, HB.out.bad⟩
  | some x =>
    obtain ⟨k, r⟩ := x
    obtain ⟨p, _, hp, _⟩ := Tm.num_app hr
    obtain ⟨e1, e2, e3⟩ := rest_of hle hp
    have H1 := hid hr
    have E1 := hid e1
    have hj0 : s.size - r.length ≤ s.size := by omega
    clear hr e1 e2 e3 hp
    by_cases h1 : 32 < k
    · have HE : Hid (Tm.tupleA (Tm.rd n) (rest s a) = none) := by show _ = _; unfold Tm.tupleA; rw [H1.out]; simp only; rw [if_neg (by omega)]
      have h1' : (32 : Int) < (k : Int) := by omega
      go_enter Tryz.func112, Tryz.ntmps112
      go_wp2_with fail
      refine (number_any HR.out 58 58 rfl).mono ?_
      rintro e w' hE
      obtain ⟨rfl, hb⟩ := hE.some H1.out
      have HB := hid hb
      clear hE hb
      go_wp2_with fail
      go_ret
      exact ends_none HE.out ⟨rfl, HB.out.bad⟩
    · have h1' : ¬ (32 : Int) < (k : Int) := by omega
      have hk : k ≤ 32 := by omega
      have HE : Hid (Tm.tupleA (Tm.rd n) (rest s a) = Tm.manyA (Tm.rd n) k 1 r) := by show _ = _; unfold Tm.tupleA; rw [H1.out]; simp only; rw [if_pos (by omega)]
      have HKK : Hid (Tm.tupleK (Tm.rd n) (rest s a) = Tm.kidsN (Tm.rd n) k r) := by show _ = _; unfold Tm.tupleK; rw [H1.out]
      clear h1
      go_enter Tryz.func112, Tryz.ntmps112
      go_wp2_with fail
      refine (number_any HR.out 58 58 rfl).mono ?_
      rintro e w1 hE
      obtain ⟨rfl, hb⟩ := hE.some H1.out
      have HB := hid hb
      clear hE hb
      go_wp2_with fail
      go_loopg [5, 19] k (fun g dv iv wr => ∃ i d j : Nat, ∃ kk : List Bs, i ≤ k ∧ g = k - i ∧ iv = .int .i64 i ∧ dv = .int .i64 d ∧ 1 ≤ d ∧ d ≤ n + 1 ∧ RS w0 B b s lv kp j nn tx (ks ++ upd (wt kp lv) [] kk) wr ∧ Tm.manyA (Tm.rd n) k 1 r = Tm.manyA (Tm.rd n) (k - i) d (rest s j) ∧ Tm.kidsN (Tm.rd n) k r = kk ++ Tm.kidsN (Tm.rd n) (k - i) (rest s j))
      case atStart =>
        refine ⟨0, 1, s.size - r.length, [], Nat.zero_le _, rfl, rfl, rfl, Nat.le_refl _, by omega, ?_, ?_, ?_⟩
        · have : ks ++ upd (wt kp lv) [] [] = ks := by rw [upd_same]; simp
          rw [this]
          exact HB.out
        · rw [E1.out]; rfl
        · rw [E1.out]; rfl
      case round =>
        obtain ⟨i, d, j, kk, hik, rfl, rfl, rfl, hd1, hd2, hR, hM, hN⟩ := hrel
        have hjl := hR.le
        have HR2 := hid hR
        have HM := hid hM
        have HN := hid hN
        clear hR hM hN
        by_cases hlt : i < k
        · have hlt' : (i : Int) < (k : Int) := by omega
          go_wp2_with fail
          refine (hK HR2.out hl HB0.out).mono ?_
          rintro e w2 hE
          have HE2 := hid hE
          clear hE
          cases hr2 : Tm.rd n (rest s j) with
          | none =>
            have H2 := hid hr2
            clear hr2
            obtain ⟨rfl, hb⟩ := HE2.out.none H2.out
            have HB2 := hid hb
            clear hb
            go_wp2_with fail
            go_ret
            refine ends_none ?_ ⟨rfl, HB2.out⟩
            rw [HE.out, HM.out, show k - i = (k - i - 1) + 1 by omega, Tm.manyA, H2.out]
          | some x =>
            obtain ⟨d', r'⟩ := x
            have hdd := Tm.rd_len hr2
            have hd3 := hdd.2.1
            have hd4 := hdd.2.2.1
            obtain ⟨q1, q2, q3, q4, q5, q6⟩ := rd_rest hjl hr2
            have H2 := hid hr2
            have Q1 := hid q1
            clear hr2 hdd q1 q6
            obtain ⟨rfl, hb⟩ := HE2.out.some H2.out
            have HB2 := hid hb
            clear hb
            have hz2 : ((d' : Int) == 0) = false := by simp; omega
            have HM2 : Hid (Tm.manyA (Tm.rd n) k 1 r = Tm.manyA (Tm.rd n) (k - (i + 1)) (max d (d' + 1)) (rest s (s.size - r'.length))) := by
              show _ = _
              rw [HM.out, show k - i = (k - (i + 1)) + 1 by omega, Tm.manyA, H2.out, Q1.out]
            have HN2 : Hid (Tm.kidsN (Tm.rd n) k r = (kk ++ Tm.kids1 (Tm.rd n) (rest s j)) ++ Tm.kidsN (Tm.rd n) (k - (i + 1)) (rest s (s.size - r'.length))) := by
              show _ = _
              rw [HN.out, show k - i = (k - (i + 1)) + 1 by omega, Tm.kidsN, H2.out, Q1.out, kids1_some H2.out]
              simp
            have HB3 : Hid (RS w0 B b s lv kp (s.size - r'.length) nn tx (ks ++ upd (wt kp lv) [] (kk ++ Tm.kids1 (Tm.rd n) (rest s j))) w2) := by
              apply hid
              have := HB2.out
              rw [upd_app] at this
              simpa only [keepN, keepX, upd_same] using this
            by_cases hdd : d ≤ d'
            · go_wp2_with fail
              go_roundg (k - (i + 1))
              case measure => omega
              case rel => exact ⟨i + 1, max d (d' + 1), _, _, by omega, rfl, by simp, by rw [show max d (d' + 1) = d' + 1 by omega]; simp, by omega, by omega, HB3.out, HM2.out, HN2.out⟩
            · go_wp2_with fail
              go_roundg (k - (i + 1))
              case measure => omega
              case rel => exact ⟨i + 1, max d (d' + 1), _, _, by omega, rfl, by simp, by rw [show max d (d' + 1) = d by omega], by omega, by omega, HB3.out, HM2.out, HN2.out⟩
        · have hlt' : ¬ (i : Int) < (k : Int) := by omega
          have hik2 : i = k := by omega
          have HIK := hid hik2
          clear hik2
          go_wp2_with fail
          go_ret
          refine ends_some (x := (d, rest s j)) ?_ ⟨rfl, ?_⟩
          · rw [HE.out, HM.out, show k - i = 0 by omega]; rfl
          · show RS w0 B b s lv kp (s.size - (rest s j).length) _ _ _ _
            have e1 : s.size - (rest s j).length = j := by rw [rest_len]; omega
            have e2 : Tm.tupleK (Tm.rd n) (rest s a) = kk := by rw [HKK.out, HN.out, show k - i = 0 by omega]; simp [Tm.kidsN]
            rw [e1, e2]
            simpa only [keepN, keepX, upd_same] using HR2.out
end Go.Proofs.YtdhmmllpioppfaaGreat
