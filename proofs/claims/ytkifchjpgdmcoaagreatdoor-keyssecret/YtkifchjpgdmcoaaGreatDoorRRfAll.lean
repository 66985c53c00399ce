import Derived.Test.YtkifchjpgdmcoaaGreatDoorRReAll
/- What the document's reading of an op with parts does. -/
namespace Go.Proofs.YtkifchjpgdmcoaaGreatDoor
open Go.RowKit
theorem Tryz.info3 : (Tryz.prog.info? 3).map (fun i => (i.zero, i.size, i.bytes)) = some (some (.int .i64 0), 1, 8) := by kernel_rfl
theorem ob_start (w : World) (J : Nat) : OB w (w.heap.size + 1 + 1) 0 1 (w.heap.size + 1) 1 [J] (((w.alloc (.cells cutZ 109)).alloc (.cells #[.int .i64 (J : Int)] 3)).alloc (.cells #[.int .i64 0, .int .i64 1, .int .u64 0, .int .i64 0, .slice (some ⟨w.heap.size + 1, 0, none⟩) 1 1] 109)) := by
 have hb1 := below_alloc_self' w (.cells cutZ 109)
 have hb2 := below_alloc_self' (w.alloc (.cells cutZ 109)) (.cells #[.int .i64 (J : Int)] 3)
 have hb3 := below_alloc_self' ((w.alloc (.cells cutZ 109)).alloc (.cells #[.int .i64 (J : Int)] 3)) (.cells #[.int .i64 0, .int .i64 1, .int .u64 0, .int .i64 0, .slice (some ⟨w.heap.size + 1, 0, none⟩) 1 1] 109)
 refine ⟨(hb1.trans (hb2.mono (by simp))).trans (hb3.mono (by simp; omega)), ?_, ⟨by omega, by simp⟩, ?_, ?_⟩
 · rw [hb3.block _ (by simp; omega), hb2.block _ (by simp)]; exact heap_alloc_new w _
 · have := heap_alloc_new ((w.alloc (.cells cutZ 109)).alloc (.cells #[.int .i64 (J : Int)] 3)) (.cells #[.int .i64 0, .int .i64 1, .int .u64 0, .int .i64 0, .slice (some ⟨w.heap.size + 1, 0, none⟩) 1 1] 109)
   have e : cutC 0 1 (.slice (some ⟨w.heap.size + 1, 0, none⟩) ([J] : List Nat).length 1) = #[.int .i64 0, .int .i64 1, .int .u64 0, .int .i64 0, .slice (some ⟨w.heap.size + 1, 0, none⟩) 1 1] := rfl
   rw [e]
   simpa using this
 · refine ⟨by simp, Or.inr ⟨w.heap.size + 1, 1, #[.int .i64 (J : Int)], rfl, Nat.le_refl _, ?_, by simp [maxLen]⟩⟩
   rw [hb3.block _ (by simp)]
   have := heap_alloc_new (w.alloc (.cells cutZ 109)) (.cells #[.int .i64 (J : Int)] 3)
   simpa using this
theorem rest_of_rd {n : Nat} {s : ByteArray} {j d : Nat} {r : Bs} (hj : j ≤ s.size) (h : Tm.rd n (rest s j) = some (d, r)) : rest s (s.size - r.length) = r := by
 obtain ⟨p, hp, _⟩ := Tm.rd_good n _ _ _ h
 exact (rest_of hj hp).1
set_option maxHeartbeats 4000000 in
set_option maxRecDepth 100000 in
theorem read_noop (n : Nat) (_ih : RC n) (hn63 : n ≤ 63) (s : ByteArray) (a : Nat) (w : World) (hs : s.size ≤ 20000) (ha : a < s.size) (h110 : s[a] ≠ 110) (h116 : s[a] ≠ 116) (h84 : s[a] ≠ 84) (hp : Tm.partsN s[a] = none) :
   Calls Tryz.prog 94 #[.string s, .int .i64 (a : Int), .int .i64 ((n + 1 : Nat) : Int)] w fun en w' => Below w.heap.size w w' ∧
   Ends (Tm.rd (n + 1) (rest s a)) (fun x => ∃ (N F : Int) (ao : Option Addr) (kn kc : Nat), en = .returned (cutV ((s.size - x.2.length : Nat) : Int) (x.1 : Int) N F (.slice ao kn kc)) ∧ Told s a n x N F (.slice ao kn kc) w.heap.size w')
     (∃ D N : Int, en = .returned (cutV (-1) D N 0 (.slice none 0 0))) := by
 have ha' : ¬ (s.size : Int) ≤ (a : Int) := by omega
 have hn : (((n + 1 : Nat) : Int) == 0) = false := by simp; omega
 have e110 : ((s[a].toNat : Int) == 110) = false := byte_ne h110
 have e116 : ((s[a].toNat : Int) == 116) = false := byte_ne h116
 have hrd : Hid (Tm.rd (n + 1) (rest s a) = Tm.bodyB n s[a] (rest s (a + 1))) := by
   apply hid; rw [rest_cons ha, Tm.rd_body n _ _ h110 h116]
 have e84 : ((s[a].toNat : Int) == 84) = false := byte_ne h84
 have HH : Hid (Tm.headB s[a] (rest s (a + 1)) = none) := by apply hid; unfold Tm.headB; rw [if_neg h84, hp]
 have HP : Hid (partsI s[a] = -1) := by apply hid; unfold partsI; rw [hp]
 clear hp h84 _ih h110 h116
 go_enter Tryz.func94, Tryz.ntmps94
 go_wp2_with fail
 refine (rparts_any s[a] _).mono ?_
 rintro e w1 ⟨rfl, rfl⟩
 rw [HP.out]
 go_wp2_with fail
 refine (rnone_any _).mono ?_
 rintro e wn ⟨rfl, hb⟩
 obtain ⟨hbl, hh⟩ := res_block w (.cells cutZ 109) rfl _ hb
 obtain ⟨q0, q1, q2, q3, q4, qf⟩ := cutZ_cells hh
 have HB := hid hbl
 clear hbl hh hb
 go_wp2_with fail
 refine bodyPost_ret (v := cutV (-1) 0 0 0 (.slice none 0 0)) (by simp [results, Tryz.results94, go_sem, q0, q1, q2, q3, q4]) rfl ⟨?_, ?_⟩
 · exact ((((HB.out.setCell (by simp) _).setCell (by simp) _).setCell (by simp) _).setCell (by simp) _).setCell (by simp) _
 · rw [hrd.out]
   exact ends_none (Tm.body_none0 HH.out) ⟨0, 0, rfl⟩
set_option maxHeartbeats 4000000 in
set_option maxRecDepth 100000 in
theorem read_parts (n : Nat) (ih : RC n) (hn63 : n ≤ 63) (s : ByteArray) (a : Nat) (w : World) (hs : s.size ≤ 20000) (ha : a < s.size) (h110 : s[a] ≠ 110) (h116 : s[a] ≠ 116) (h84 : s[a] ≠ 84) (k : Nat) (hp : Tm.partsN s[a] = some k) :
   Calls Tryz.prog 94 #[.string s, .int .i64 (a : Int), .int .i64 ((n + 1 : Nat) : Int)] w fun en w' => Below w.heap.size w w' ∧
   Ends (Tm.rd (n + 1) (rest s a)) (fun x => ∃ (N F : Int) (ao : Option Addr) (kn kc : Nat), en = .returned (cutV ((s.size - x.2.length : Nat) : Int) (x.1 : Int) N F (.slice ao kn kc)) ∧ Told s a n x N F (.slice ao kn kc) w.heap.size w')
     (∃ D N : Int, en = .returned (cutV (-1) D N 0 (.slice none 0 0))) := by
 have ha' : ¬ (s.size : Int) ≤ (a : Int) := by omega
 have hn : (((n + 1 : Nat) : Int) == 0) = false := by simp; omega
 have e110 : ((s[a].toNat : Int) == 110) = false := byte_ne h110
 have e116 : ((s[a].toNat : Int) == 116) = false := byte_ne h116
 have hrd : Hid (Tm.rd (n + 1) (rest s a) = Tm.bodyB n s[a] (rest s (a + 1))) := by
   apply hid; rw [rest_cons ha, Tm.rd_body n _ _ h110 h116]
 have e84 : ((s[a].toNat : Int) == 84) = false := byte_ne h84
 have hk : k ≤ 32 := by rcases Tm.parts_cases hp with h | h <;> omega
 have HP : Hid (partsI s[a] = (k : Int)) := by apply hid; unfold partsI; rw [hp]
 have IH := hid ih
 have hkk : ¬ (k : Int) < 0 := by omega
 obtain ⟨r, hr⟩ : ∃ r, r = rest s (a + 1) := ⟨_, rfl⟩
 obtain ⟨J, hJe⟩ : ∃ J, J = a + 1 := ⟨_, rfl⟩
 have hJ : J ≤ s.size := by omega
 have HJa : Hid ((a : Int) + 1 = (J : Int)) := by apply hid; omega
 have HH : Hid (Tm.headB s[a] (rest s (a + 1)) = some (k, r)) := by apply hid; unfold Tm.headB; rw [if_neg h84, hp, hr]
 have HR : Hid (rest s J = r) := by apply hid; rw [hr, hJe]
 have HC := hid (And.intro h110 h116)
 clear hp h84 ih h110 h116 hr hJe
 go_enter Tryz.func94, Tryz.ntmps94
 go_wp2_with fail
 refine (rparts_any s[a] _).mono ?_
 rintro e w1 ⟨rfl, rfl⟩
 rw [HP.out]
 obtain ⟨i0, hi0, hz0, hz1, hz2⟩ := info_parts Tryz.info3
 go_wp2_with fail
 rw [HJa.out]
 have hob0 : OB w (w.heap.size + 1 + 1) 0 1 (w.heap.size + 1) 1 [J] (((w.alloc (.cells cutZ 109)).alloc (.cells #[.int .i64 (J : Int)] 3)).alloc (.cells #[.int .i64 0, .int .i64 1, .int .u64 0, .int .i64 0, .slice (some ⟨w.heap.size + 1, 0, none⟩) 1 1] 109)) := ob_start w J
 generalize hgw : (((w.alloc (.cells cutZ 109)).alloc (.cells #[.int .i64 (J : Int)] 3)).alloc (.cells #[.int .i64 0, .int .i64 1, .int .u64 0, .int .i64 0, .slice (some ⟨w.heap.size + 1, 0, none⟩) 1 1] 109)) = W0 at *
 generalize hgo : w.heap.size + 1 + 1 = ob at *
 clear hgw
 have HOB0 := hid hob0
 clear hob0
 go_loopg [12, 16] k (fun g jv iv wr => ∃ i d j g0 kc : Nat, ∃ ps : List Nat, ∃ kk : List Bs, i ≤ k ∧ g = k - i ∧ iv = .int .i64 i ∧ jv = .int .i64 j ∧ j ≤ s.size ∧ 1 ≤ d ∧ d ≤ n + 1 ∧ kk.length = i ∧ ps.getD i 0 = j ∧ Cuts s ps kk ∧ OB w ob 0 d g0 kc ps wr ∧ Tm.manyA (Tm.rd n) k 1 r = Tm.manyA (Tm.rd n) (k - i) d (rest s j) ∧ Tm.kidsN (Tm.rd n) k r = kk ++ Tm.kidsN (Tm.rd n) (k - i) (rest s j))
 case atStart =>
   refine ⟨0, 1, J, w.heap.size + 1, 1, [J], [], by omega, rfl, rfl, rfl, hJ, by omega, by omega, rfl, rfl, ⟨rfl, fun i hi => by simp at hi, fun i hi => ?_⟩, HOB0.out, ?_, ?_⟩
   · have : i = 0 := by simpa using hi
     subst this; exact hJ
   · rw [HR.out]; rfl
   · rw [HR.out]; rfl
 case round =>
   obtain ⟨i, d, j, g0, kc, ps, kk, hik, rfl, rfl, rfl, hj, hd1, hdn, hkl, hpj, hcut, hob, hm, hkn⟩ := hrel
   obtain ⟨c0, c1, c2, c3, c4, cf⟩ := hob.cells
   have HPL : Hid (ps.length = i + 1) := by apply hid; rw [hcut.1, hkl]
   have HOB := hid hob
   have HM := hid hm
   have HKN := hid hkn
   have HCUT := hid hcut
   have HPJ := hid hpj
   have hobs := hob.lt
   clear hob hm hkn hcut hpj
   by_cases hlt : i < k
   · have hlt' : (i : Int) < (k : Int) := by omega
     go_wp2_with fail
     refine (IH.out s j _ hs hj).mono ?_
     rintro e w2 ⟨hb, hE⟩
     have hob2 := HOB.out.below hb
     clear hb c0 c1 c2 c3 c4 cf
     obtain ⟨c0, c1, c2, c3, c4, cf⟩ := hob2.cells
     have HOB2 := hid hob2
     clear hob2
     cases hrd2 : Tm.rd n (rest s j) with
     | none =>
       obtain ⟨D, N, rfl⟩ := hE.none hrd2
       have HRD2 := hid hrd2
       clear hE hrd2
       go_wp2_with fail
       refine (rnone_any _).mono ?_
       rintro e wn ⟨rfl, hb⟩
       obtain ⟨hbl, hh⟩ := resb (HOB2.out.alloc _).bel (HOB2.out.alloc _).res hb
       obtain ⟨q0, q1, q2, q3, q4, qf⟩ := cutZ_cells hh
       have HB := hid hbl
       clear hbl hh hb
       go_wp2_with fail
       refine bodyPost_ret (v := cutV (-1) 0 0 0 (.slice none 0 0)) (by simp [results, Tryz.results94, go_sem, q0, q1, q2, q3, q4]) rfl ⟨?_, ?_⟩
       · exact ((((HB.out.setCell (by simp) _).setCell (by simp) _).setCell (by simp) _).setCell (by simp) _).setCell (by simp) _
       · rw [hrd.out]
         exact ends_none (Tm.body_none1 HH.out (by rw [HM.out, show k - i = (k - (i + 1)) + 1 by omega, Tm.manyA, HRD2.out])) ⟨0, 0, rfl⟩
     | some x =>
       obtain ⟨x1, x2⟩ := x
       obtain ⟨N, F, ao, kn, kc', rfl, _⟩ := hE.some hrd2
       obtain ⟨hl1, hl2, hl3, hl4⟩ := Tm.rd_len hrd2
       rw [rest_len] at hl1
       have hx2 : rest s (s.size - x2.length) = x2 := rest_of_rd hj hrd2
       simp only
       generalize hE2 : s.size - x2.length = E2 at *
       have hE2s : E2 ≤ s.size := by omega
       have hjE : j < E2 := by omega
       have hge : ¬ (E2 : Int) < 0 := by omega
       have HX2 := hid hx2
       have HRD2 := hid hrd2
       clear hE hrd2 hx2 hl4
       have hx63 : (x1 : Int) ≤ 63 := by omega
       have hobs2 : ob < w2.heap.size := HOB2.out.lt.2
       have HU : Hid (Tm.used (rest s j) x2 = (rest s j).take (E2 - j)) := by apply hid; unfold Tm.used; rw [rest_len]; congr 1; omega
       have ho1 : ∀ u ∈ [Value.int .i64 (E2 : Int)], u.oneCell' = true := by intro u hu; simp at hu; subst hu; rfl
       have Hm1 : Hid (ps.length + 1 ≤ maxLen) := by apply hid; rw [HPL.out]; unfold maxLen; omega
       have Hm2 : Hid ((ps.length + 1) * 8 ≤ 140737488355328) := by apply hid; rw [HPL.out]; omega
       by_cases hmx : d < x1 + 1
       · skip
         have HDM : Hid (max d (x1 + 1) = (x1 + 1)) := by apply hid; omega
         have HDB : Hid (1 ≤ (x1 + 1) ∧ (x1 + 1) ≤ n + 1) := by apply hid; omega
         have hlt1 : (d : Int) < (x1 : Int) + 1 := by omega
         have HOA : Hid (∀ o1 o2, OB w ob 0 (x1 + 1) g0 kc ps (((w2.setCell ⟨ob, 1, none⟩ (.int .i64 ((x1 : Int) + 1))).alloc o1).alloc o2)) := fun o1 o2 => (((HOB2.out.setD (x1 + 1) _ (by simp)).alloc o1).alloc o2)
         have HOS : Hid (∀ o1 o2, w.heap.size + 1 ≤ (((w2.setCell ⟨ob, 1, none⟩ (.int .i64 ((x1 : Int) + 1))).alloc o1).alloc o2).heap.size) := fun o1 o2 => (by have := (HOA.out o1 o2).lt; omega)
         clear hl1 hl2 hE2 hmx
         go_wp2_with (at_builtin; refine wpList_append_own _ rfl (.tmp 131) (.tmp 133) 107 rfl (w.heap.size + 1) 3 i0 (.int .i64 0) 1 8 Tryz.underlying107 hi0 hz0 hz1 hz2 rfl (by decide) _ ps.length (ints ps) rfl (HOA.out _ _).own ⟨w2.heap.size + 1, 0, none⟩ 1 1 [.int .i64 (E2 : Int)] rfl rfl (new_cell _ _ (by simp) _ _) ho1 Hm1.out Hm2.out (HOS.out _ _) ?_; intro v3 w3 hown3 hg3 _; have hog := (HOA.out _ _).grown hown3 hg3; obtain ⟨g3, kc3, rfl⟩ := hog.form (by simp); obtain ⟨o4, of⟩ := hog.cells; have HOG := hid hog; clear hown3 hg3 hog)
         clear hlt1
         go_roundg (k - (i + 1))
         case measure => omega
         case rel =>
           refine ⟨i + 1, (x1 + 1), E2, g3, kc3, ps ++ [E2], kk ++ [Tm.used (rest s j) x2], by omega, rfl, by simp, rfl, hE2s, HDB.out.1, HDB.out.2, by simp [hkl], ?_, cuts_more HCUT.out (by rw [hkl]; exact HPJ.out) hjE hE2s _ ?_, (by have h := HOG.out.store; rw [show (ps ++ [E2]).length = ps.length + 1 by simp] at h; exact h), ?_, ?_⟩
           · rw [← HPL.out]; simp [List.getD]
           · exact HU.out
           · rw [HM.out, show k - i = (k - (i + 1)) + 1 by omega, Tm.manyA, HRD2.out]
             simp only
             rw [HDM.out, HX2.out]
           · rw [HKN.out, show k - i = (k - (i + 1)) + 1 by omega, Tm.kidsN, HRD2.out]
             simp only
             rw [HX2.out, List.append_assoc]; rfl
       · skip
         have HDM : Hid (max d (x1 + 1) = d) := by apply hid; omega
         have HDB : Hid (1 ≤ d ∧ d ≤ n + 1) := by apply hid; omega
         have hlt1 : ¬ (d : Int) < (x1 : Int) + 1 := by omega
         have HOA : Hid (∀ o1 o2, OB w ob 0 d g0 kc ps (((w2.setCell ⟨ob, 1, none⟩ (.int .i64 (d : Int))).alloc o1).alloc o2)) := fun o1 o2 => (((HOB2.out.setD d _ (by simp)).alloc o1).alloc o2)
         have HOS : Hid (∀ o1 o2, w.heap.size + 1 ≤ (((w2.setCell ⟨ob, 1, none⟩ (.int .i64 (d : Int))).alloc o1).alloc o2).heap.size) := fun o1 o2 => (by have := (HOA.out o1 o2).lt; omega)
         clear hl1 hl2 hE2 hmx
         go_wp2_with (at_builtin; refine wpList_append_own _ rfl (.tmp 131) (.tmp 133) 107 rfl (w.heap.size + 1) 3 i0 (.int .i64 0) 1 8 Tryz.underlying107 hi0 hz0 hz1 hz2 rfl (by decide) _ ps.length (ints ps) rfl (HOA.out _ _).own ⟨w2.heap.size + 1, 0, none⟩ 1 1 [.int .i64 (E2 : Int)] rfl rfl (new_cell _ _ (by simp) _ _) ho1 Hm1.out Hm2.out (HOS.out _ _) ?_; intro v3 w3 hown3 hg3 _; have hog := (HOA.out _ _).grown hown3 hg3; obtain ⟨g3, kc3, rfl⟩ := hog.form (by simp); obtain ⟨o4, of⟩ := hog.cells; have HOG := hid hog; clear hown3 hg3 hog)
         clear hlt1
         go_roundg (k - (i + 1))
         case measure => omega
         case rel =>
           refine ⟨i + 1, d, E2, g3, kc3, ps ++ [E2], kk ++ [Tm.used (rest s j) x2], by omega, rfl, by simp, rfl, hE2s, HDB.out.1, HDB.out.2, by simp [hkl], ?_, cuts_more HCUT.out (by rw [hkl]; exact HPJ.out) hjE hE2s _ ?_, (by have h := HOG.out.store; rw [show (ps ++ [E2]).length = ps.length + 1 by simp] at h; exact h), ?_, ?_⟩
           · rw [← HPL.out]; simp [List.getD]
           · exact HU.out
           · rw [HM.out, show k - i = (k - (i + 1)) + 1 by omega, Tm.manyA, HRD2.out]
             simp only
             rw [HDM.out, HX2.out]
           · rw [HKN.out, show k - i = (k - (i + 1)) + 1 by omega, Tm.kidsN, HRD2.out]
             simp only
             rw [HX2.out, List.append_assoc]; rfl
   · have hlt' : ¬ (i : Int) < (k : Int) := by omega
     have hik' : k - i = 0 := by omega
     have hki : k = i := by omega
     have HM' : Hid (Tm.manyA (Tm.rd n) k 1 r = some (d, rest s j)) := by apply hid; rw [HM.out, hik']; rfl
     have HK' : Hid (Tm.kidsN (Tm.rd n) k r = kk) := by apply hid; rw [HKN.out, hik']; exact List.append_nil _
     clear HM HKN
     go_wp2_with fail
     have hob3 := HOB.out.setE j _ rfl
     generalize hgw : World.setCell _ _ _ = w3 at *
     clear hgw
     obtain ⟨c0, c1, c2, c3, c4, cf⟩ := hob3.cells
     refine (fits_all s a ha hs j d 0 0 ps kk _ _ _ HCUT.out hob3.own (fun h => by rw [hkl, ← hki]; exact Tm.head_len1 HH.out h) (fun h => by rw [hkl, ← hki]; exact Tm.head_len2 HH.out h)).mono ?_
     rintro e w4 ⟨rfl, hb⟩
     have hob4 := hob3.below hb
     clear hob3 c0 c1 c2 c3 c4 cf hb
     obtain ⟨c0, c1, c2, c3, c4, cf⟩ := hob4.cells
     have HOB4 := hid hob4
     clear hob4
     cases hfit : Tm.fitB s[a] kk with
     | false =>
       have HFT := hid hfit
       clear hfit
       go_wp2_with fail
       refine (rnone_any _).mono ?_
       rintro e wn ⟨rfl, hb⟩
       obtain ⟨hbl, hh⟩ := resb HOB4.out.bel HOB4.out.res hb
       obtain ⟨q0, q1, q2, q3, q4, qf⟩ := cutZ_cells hh
       have HB := hid hbl
       clear hbl hh hb
       go_wp2_with fail
       refine bodyPost_ret (v := cutV (-1) 0 0 0 (.slice none 0 0)) (by simp [results, Tryz.results94, go_sem, q0, q1, q2, q3, q4]) rfl ⟨?_, ?_⟩
       · exact ((((HB.out.setCell (by simp) _).setCell (by simp) _).setCell (by simp) _).setCell (by simp) _).setCell (by simp) _
       · rw [hrd.out]
         exact ends_none (by rw [Tm.body_fit HH.out HM'.out, HK'.out, HFT.out]; rfl) ⟨0, 0, rfl⟩
     | true =>
       have HFT := hid hfit
       clear hfit
       obtain ⟨q0, q1, q2, q3, q4, qf⟩ := cutZ_cells HOB4.out.res
       go_wp2_with fail
       refine bodyPost_ret (v := cutV (j : Int) (d : Int) 0 0 (.slice (some ⟨g0, 0, none⟩) ps.length kc)) (by simp [results, Tryz.results94, go_sem, q0, q1, q2, q3, q4]) rfl ⟨?_, ?_⟩
       · exact ((((HOB4.out.bel.setCell (by simp) _).setCell (by simp) _).setCell (by simp) _).setCell (by simp) _).setCell (by simp) _
       · rw [hrd.out]
         refine ends_some (x := (d, rest s j)) (by rw [Tm.body_fit HH.out HM'.out, HK'.out, HFT.out]; rfl) ⟨0, 0, some ⟨g0, 0, none⟩, ps.length, kc, ?_, ha, Or.inr (Or.inr ⟨HC.out.1, HC.out.2, ps, ?_, ?_⟩)⟩
         · simp only [rest_len]; congr 3; congr 1; omega
         · exact ownsRow_base (ownsRow_setCell_at (ownsRow_setCell_at (ownsRow_setCell_at (ownsRow_setCell_at (ownsRow_setCell_at HOB4.out.own _ _) _ _) _ _) _ _) _ _) (Nat.le_succ _)
         · rw [rest_cons ha, Tm.body_kids HC.out.1 HC.out.2 HH.out HM'.out, HK'.out]; exact HCUT.out
end Go.Proofs.YtkifchjpgdmcoaaGreatDoor

/- What the document's reading of a tuple does; what its reading does, whatever it is handed. -/
namespace Go.Proofs.YtkifchjpgdmcoaaGreatDoor
open Go.RowKit
set_option maxHeartbeats 4000000 in
set_option maxRecDepth 100000 in
theorem read_tuple (n : Nat) (ih : RC n) (hn63 : n ≤ 63) (s : ByteArray) (a : Nat) (w : World) (hs : s.size ≤ 20000) (ha : a < s.size) (h110 : s[a] ≠ 110) (h116 : s[a] ≠ 116) (h84 : s[a] = 84) :
   Calls Tryz.prog 94 #[.string s, .int .i64 (a : Int), .int .i64 ((n + 1 : Nat) : Int)] w fun en w' => Below w.heap.size w w' ∧
   Ends (Tm.rd (n + 1) (rest s a)) (fun x => ∃ (N F : Int) (ao : Option Addr) (kn kc : Nat), en = .returned (cutV ((s.size - x.2.length : Nat) : Int) (x.1 : Int) N F (.slice ao kn kc)) ∧ Told s a n x N F (.slice ao kn kc) w.heap.size w')
     (∃ D N : Int, en = .returned (cutV (-1) D N 0 (.slice none 0 0))) := by
 have ha' : ¬ (s.size : Int) ≤ (a : Int) := by omega
 have hn : (((n + 1 : Nat) : Int) == 0) = false := by simp; omega
 have e110 : ((s[a].toNat : Int) == 110) = false := byte_ne h110
 have e116 : ((s[a].toNat : Int) == 116) = false := byte_ne h116
 have hrd : Hid (Tm.rd (n + 1) (rest s a) = Tm.bodyB n s[a] (rest s (a + 1))) := by
   apply hid; rw [rest_cons ha, Tm.rd_body n _ _ h110 h116]
 have e84 : ((s[a].toNat : Int) == 84) = true := by rw [h84]; rfl
 have HP : Hid (partsI s[a] = -1) := by apply hid; rw [h84]; rfl
 have IH := hid ih
 have HC := hid (And.intro h110 h116)
 have H84 := hid h84
 clear h84 ih h110 h116
 go_enter Tryz.func94, Tryz.ntmps94
 go_wp2_with fail
 refine (rparts_any s[a] _).mono ?_
 rintro e w1 ⟨rfl, rfl⟩
 rw [HP.out]
 go_wp2_with fail
 refine (rnumber_any s (a + 1) 58 58 rfl (by decide) hs _).mono ?_
 rintro e w1 ⟨rfl, hE⟩
 cases hnum : Tm.num 58 (rest s (a + 1)) with
 | none =>
   have he := hE.none hnum
   subst he
   have HN := hid hnum
   clear hnum hE
   go_wp2_with fail
   refine (rnone_any _).mono ?_
   rintro e wn ⟨rfl, hb⟩
   obtain ⟨hbl, hh⟩ := res_block w (.cells cutZ 109) rfl _ hb
   obtain ⟨q0, q1, q2, q3, q4, qf⟩ := cutZ_cells hh
   have HB := hid hbl
   clear hbl hh hb
   go_wp2_with fail
   refine bodyPost_ret (v := cutV (-1) 0 0 0 (.slice none 0 0)) (by simp [results, Tryz.results94, go_sem, q0, q1, q2, q3, q4]) rfl ⟨?_, ?_⟩
   · exact ((((HB.out.setCell (by simp) _).setCell (by simp) _).setCell (by simp) _).setCell (by simp) _).setCell (by simp) _
   · rw [hrd.out]
     exact ends_none (Tm.body_none0 (by unfold Tm.headB; rw [if_pos H84.out, HN.out])) ⟨0, 0, rfl⟩
 | some x =>
   obtain ⟨k, r⟩ := x
   have he := hE.some hnum
   subst he
   have hJr : r.length < s.size - (a + 1) ∧ rest s (s.size - r.length) = r := by
     obtain ⟨p, hp, he, _⟩ := Tm.num_app hnum
     have h0 := List.length_pos_iff.2 hp
     have hq := rest_of (by omega) he
     exact ⟨by omega, hq.1⟩
   obtain ⟨hl0, hrs⟩ := hJr
   have HN := hid hnum
   clear hnum hE
   have hge : ¬ ((s.size - r.length : Nat) : Int) < 0 := by omega
   have hJ : s.size - r.length ≤ s.size := by omega
   have HR := hid hrs
   clear hrs
   generalize s.size - r.length = J at *
   clear hl0
   by_cases h32 : 32 < k
   · have h32' : (32 : Int) < (k : Int) := by omega
     go_wp2_with fail
     refine (rnone_any _).mono ?_
     rintro e wn ⟨rfl, hb⟩
     obtain ⟨hbl, hh⟩ := res_block w (.cells cutZ 109) rfl _ hb
     obtain ⟨q0, q1, q2, q3, q4, qf⟩ := cutZ_cells hh
     have HB := hid hbl
     clear hbl hh hb
     go_wp2_with fail
     refine bodyPost_ret (v := cutV (-1) 0 0 0 (.slice none 0 0)) (by simp [results, Tryz.results94, go_sem, q0, q1, q2, q3, q4]) rfl ⟨?_, ?_⟩
     · exact ((((HB.out.setCell (by simp) _).setCell (by simp) _).setCell (by simp) _).setCell (by simp) _).setCell (by simp) _
     · rw [hrd.out]
       exact ends_none (Tm.body_none0 (by unfold Tm.headB; rw [if_pos H84.out, HN.out]; simp only; rw [if_neg (by omega)])) ⟨0, 0, rfl⟩
   · have hk : k ≤ 32 := by omega
     have h32' : ¬ (32 : Int) < (k : Int) := by omega
     have hw3 : IntKind.i64.wrap (k : Int) = (k : Int) := by rw [IntKind.wrap_i64]; omega
     have hkk : ¬ (k : Int) < 0 := by omega
     have HH : Hid (Tm.headB s[a] (rest s (a + 1)) = some (k, r)) := by apply hid; unfold Tm.headB; rw [if_pos H84.out, HN.out]; simp only; rw [if_pos hk]
     clear h32
     obtain ⟨i0, hi0, hz0, hz1, hz2⟩ := info_parts Tryz.info3
     go_wp2_with fail
     have hob0 : OB w (w.heap.size + 1 + 1) 0 1 (w.heap.size + 1) 1 [J] (((w.alloc (.cells cutZ 109)).alloc (.cells #[.int .i64 (J : Int)] 3)).alloc (.cells #[.int .i64 0, .int .i64 1, .int .u64 0, .int .i64 0, .slice (some ⟨w.heap.size + 1, 0, none⟩) 1 1] 109)) := ob_start w J
     generalize hgw : (((w.alloc (.cells cutZ 109)).alloc (.cells #[.int .i64 (J : Int)] 3)).alloc (.cells #[.int .i64 0, .int .i64 1, .int .u64 0, .int .i64 0, .slice (some ⟨w.heap.size + 1, 0, none⟩) 1 1] 109)) = W0 at *
     generalize hgo : w.heap.size + 1 + 1 = ob at *
     clear hgw
     have HOB0 := hid hob0
     clear hob0
     go_loopg [12, 16] k (fun g jv iv wr => ∃ i d j g0 kc : Nat, ∃ ps : List Nat, ∃ kk : List Bs, i ≤ k ∧ g = k - i ∧ iv = .int .i64 i ∧ jv = .int .i64 j ∧ j ≤ s.size ∧ 1 ≤ d ∧ d ≤ n + 1 ∧ kk.length = i ∧ ps.getD i 0 = j ∧ Cuts s ps kk ∧ OB w ob 0 d g0 kc ps wr ∧ Tm.manyA (Tm.rd n) k 1 r = Tm.manyA (Tm.rd n) (k - i) d (rest s j) ∧ Tm.kidsN (Tm.rd n) k r = kk ++ Tm.kidsN (Tm.rd n) (k - i) (rest s j))
     case atStart =>
       refine ⟨0, 1, J, w.heap.size + 1, 1, [J], [], by omega, rfl, rfl, rfl, hJ, by omega, by omega, rfl, rfl, ⟨rfl, fun i hi => by simp at hi, fun i hi => ?_⟩, HOB0.out, ?_, ?_⟩
       · have : i = 0 := by simpa using hi
         subst this; exact hJ
       · rw [HR.out]; rfl
       · rw [HR.out]; rfl
     case round =>
       obtain ⟨i, d, j, g0, kc, ps, kk, hik, rfl, rfl, rfl, hj, hd1, hdn, hkl, hpj, hcut, hob, hm, hkn⟩ := hrel
       obtain ⟨c0, c1, c2, c3, c4, cf⟩ := hob.cells
       have HPL : Hid (ps.length = i + 1) := by apply hid; rw [hcut.1, hkl]
       have HOB := hid hob
       have HM := hid hm
       have HKN := hid hkn
       have HCUT := hid hcut
       have HPJ := hid hpj
       have hobs := hob.lt
       clear hob hm hkn hcut hpj
       by_cases hlt : i < k
       · have hlt' : (i : Int) < (k : Int) := by omega
         go_wp2_with fail
         refine (IH.out s j _ hs hj).mono ?_
         rintro e w2 ⟨hb, hE⟩
         have hob2 := HOB.out.below hb
         clear hb c0 c1 c2 c3 c4 cf
         obtain ⟨c0, c1, c2, c3, c4, cf⟩ := hob2.cells
         have HOB2 := hid hob2
         clear hob2
         cases hrd2 : Tm.rd n (rest s j) with
         | none =>
           obtain ⟨D, N, rfl⟩ := hE.none hrd2
           have HRD2 := hid hrd2
           clear hE hrd2
           go_wp2_with fail
           refine (rnone_any _).mono ?_
           rintro e wn ⟨rfl, hb⟩
           obtain ⟨hbl, hh⟩ := resb (HOB2.out.alloc _).bel (HOB2.out.alloc _).res hb
           obtain ⟨q0, q1, q2, q3, q4, qf⟩ := cutZ_cells hh
           have HB := hid hbl
           clear hbl hh hb
           go_wp2_with fail
           refine bodyPost_ret (v := cutV (-1) 0 0 0 (.slice none 0 0)) (by simp [results, Tryz.results94, go_sem, q0, q1, q2, q3, q4]) rfl ⟨?_, ?_⟩
           · exact ((((HB.out.setCell (by simp) _).setCell (by simp) _).setCell (by simp) _).setCell (by simp) _).setCell (by simp) _
           · rw [hrd.out]
             exact ends_none (Tm.body_none1 HH.out (by rw [HM.out, show k - i = (k - (i + 1)) + 1 by omega, Tm.manyA, HRD2.out])) ⟨0, 0, rfl⟩
         | some x =>
           obtain ⟨x1, x2⟩ := x
           obtain ⟨N, F, ao, kn, kc', rfl, _⟩ := hE.some hrd2
           obtain ⟨hl1, hl2, hl3, hl4⟩ := Tm.rd_len hrd2
           rw [rest_len] at hl1
           have hx2 : rest s (s.size - x2.length) = x2 := rest_of_rd hj hrd2
           simp only
           generalize hE2 : s.size - x2.length = E2 at *
           have hE2s : E2 ≤ s.size := by omega
           have hjE : j < E2 := by omega
           have hge : ¬ (E2 : Int) < 0 := by omega
           have HX2 := hid hx2
           have HRD2 := hid hrd2
           clear hE hrd2 hx2 hl4
           have hx63 : (x1 : Int) ≤ 63 := by omega
           have hobs2 : ob < w2.heap.size := HOB2.out.lt.2
           have HU : Hid (Tm.used (rest s j) x2 = (rest s j).take (E2 - j)) := by apply hid; unfold Tm.used; rw [rest_len]; congr 1; omega
           have ho1 : ∀ u ∈ [Value.int .i64 (E2 : Int)], u.oneCell' = true := by intro u hu; simp at hu; subst hu; rfl
           have Hm1 : Hid (ps.length + 1 ≤ maxLen) := by apply hid; rw [HPL.out]; unfold maxLen; omega
           have Hm2 : Hid ((ps.length + 1) * 8 ≤ 140737488355328) := by apply hid; rw [HPL.out]; omega
           by_cases hmx : d < x1 + 1
           · skip
             have HDM : Hid (max d (x1 + 1) = (x1 + 1)) := by apply hid; omega
             have HDB : Hid (1 ≤ (x1 + 1) ∧ (x1 + 1) ≤ n + 1) := by apply hid; omega
             have hlt1 : (d : Int) < (x1 : Int) + 1 := by omega
             have HOA : Hid (∀ o1 o2, OB w ob 0 (x1 + 1) g0 kc ps (((w2.setCell ⟨ob, 1, none⟩ (.int .i64 ((x1 : Int) + 1))).alloc o1).alloc o2)) := fun o1 o2 => (((HOB2.out.setD (x1 + 1) _ (by simp)).alloc o1).alloc o2)
             have HOS : Hid (∀ o1 o2, w.heap.size + 1 ≤ (((w2.setCell ⟨ob, 1, none⟩ (.int .i64 ((x1 : Int) + 1))).alloc o1).alloc o2).heap.size) := fun o1 o2 => (by have := (HOA.out o1 o2).lt; omega)
             clear hl1 hl2 hE2 hmx
             go_wp2_with (at_builtin; refine wpList_append_own _ rfl (.tmp 131) (.tmp 133) 107 rfl (w.heap.size + 1) 3 i0 (.int .i64 0) 1 8 Tryz.underlying107 hi0 hz0 hz1 hz2 rfl (by decide) _ ps.length (ints ps) rfl (HOA.out _ _).own ⟨w2.heap.size + 1, 0, none⟩ 1 1 [.int .i64 (E2 : Int)] rfl rfl (new_cell _ _ (by simp) _ _) ho1 Hm1.out Hm2.out (HOS.out _ _) ?_; intro v3 w3 hown3 hg3 _; have hog := (HOA.out _ _).grown hown3 hg3; obtain ⟨g3, kc3, rfl⟩ := hog.form (by simp); obtain ⟨o4, of⟩ := hog.cells; have HOG := hid hog; clear hown3 hg3 hog)
             clear hlt1
             go_roundg (k - (i + 1))
             case measure => omega
             case rel =>
               refine ⟨i + 1, (x1 + 1), E2, g3, kc3, ps ++ [E2], kk ++ [Tm.used (rest s j) x2], by omega, rfl, by simp, rfl, hE2s, HDB.out.1, HDB.out.2, by simp [hkl], ?_, cuts_more HCUT.out (by rw [hkl]; exact HPJ.out) hjE hE2s _ ?_, (by have h := HOG.out.store; rw [show (ps ++ [E2]).length = ps.length + 1 by simp] at h; exact h), ?_, ?_⟩
               · rw [← HPL.out]; simp [List.getD]
               · exact HU.out
               · rw [HM.out, show k - i = (k - (i + 1)) + 1 by omega, Tm.manyA, HRD2.out]
                 simp only
                 rw [HDM.out, HX2.out]
               · rw [HKN.out, show k - i = (k - (i + 1)) + 1 by omega, Tm.kidsN, HRD2.out]
                 simp only
                 rw [HX2.out, List.append_assoc]; rfl
           · skip
             have HDM : Hid (max d (x1 + 1) = d) := by apply hid; omega
             have HDB : Hid (1 ≤ d ∧ d ≤ n + 1) := by apply hid; omega
             have hlt1 : ¬ (d : Int) < (x1 : Int) + 1 := by omega
             have HOA : Hid (∀ o1 o2, OB w ob 0 d g0 kc ps (((w2.setCell ⟨ob, 1, none⟩ (.int .i64 (d : Int))).alloc o1).alloc o2)) := fun o1 o2 => (((HOB2.out.setD d _ (by simp)).alloc o1).alloc o2)
             have HOS : Hid (∀ o1 o2, w.heap.size + 1 ≤ (((w2.setCell ⟨ob, 1, none⟩ (.int .i64 (d : Int))).alloc o1).alloc o2).heap.size) := fun o1 o2 => (by have := (HOA.out o1 o2).lt; omega)
             clear hl1 hl2 hE2 hmx
             go_wp2_with (at_builtin; refine wpList_append_own _ rfl (.tmp 131) (.tmp 133) 107 rfl (w.heap.size + 1) 3 i0 (.int .i64 0) 1 8 Tryz.underlying107 hi0 hz0 hz1 hz2 rfl (by decide) _ ps.length (ints ps) rfl (HOA.out _ _).own ⟨w2.heap.size + 1, 0, none⟩ 1 1 [.int .i64 (E2 : Int)] rfl rfl (new_cell _ _ (by simp) _ _) ho1 Hm1.out Hm2.out (HOS.out _ _) ?_; intro v3 w3 hown3 hg3 _; have hog := (HOA.out _ _).grown hown3 hg3; obtain ⟨g3, kc3, rfl⟩ := hog.form (by simp); obtain ⟨o4, of⟩ := hog.cells; have HOG := hid hog; clear hown3 hg3 hog)
             clear hlt1
             go_roundg (k - (i + 1))
             case measure => omega
             case rel =>
               refine ⟨i + 1, d, E2, g3, kc3, ps ++ [E2], kk ++ [Tm.used (rest s j) x2], by omega, rfl, by simp, rfl, hE2s, HDB.out.1, HDB.out.2, by simp [hkl], ?_, cuts_more HCUT.out (by rw [hkl]; exact HPJ.out) hjE hE2s _ ?_, (by have h := HOG.out.store; rw [show (ps ++ [E2]).length = ps.length + 1 by simp] at h; exact h), ?_, ?_⟩
               · rw [← HPL.out]; simp [List.getD]
               · exact HU.out
               · rw [HM.out, show k - i = (k - (i + 1)) + 1 by omega, Tm.manyA, HRD2.out]
                 simp only
                 rw [HDM.out, HX2.out]
               · rw [HKN.out, show k - i = (k - (i + 1)) + 1 by omega, Tm.kidsN, HRD2.out]
                 simp only
                 rw [HX2.out, List.append_assoc]; rfl
       · have hlt' : ¬ (i : Int) < (k : Int) := by omega
         have hik' : k - i = 0 := by omega
         have hki : k = i := by omega
         have HM' : Hid (Tm.manyA (Tm.rd n) k 1 r = some (d, rest s j)) := by apply hid; rw [HM.out, hik']; rfl
         have HK' : Hid (Tm.kidsN (Tm.rd n) k r = kk) := by apply hid; rw [HKN.out, hik']; exact List.append_nil _
         clear HM HKN
         go_wp2_with fail
         have hob3 := HOB.out.setE j _ rfl
         generalize hgw : World.setCell _ _ _ = w3 at *
         clear hgw
         obtain ⟨c0, c1, c2, c3, c4, cf⟩ := hob3.cells
         refine (fits_all s a ha hs j d 0 0 ps kk _ _ _ HCUT.out hob3.own (fun h => by rw [hkl, ← hki]; exact Tm.head_len1 HH.out h) (fun h => by rw [hkl, ← hki]; exact Tm.head_len2 HH.out h)).mono ?_
         rintro e w4 ⟨rfl, hb⟩
         have hob4 := hob3.below hb
         clear hob3 c0 c1 c2 c3 c4 cf hb
         obtain ⟨c0, c1, c2, c3, c4, cf⟩ := hob4.cells
         have HOB4 := hid hob4
         clear hob4
         cases hfit : Tm.fitB s[a] kk with
         | false =>
           have HFT := hid hfit
           clear hfit
           go_wp2_with fail
           refine (rnone_any _).mono ?_
           rintro e wn ⟨rfl, hb⟩
           obtain ⟨hbl, hh⟩ := resb HOB4.out.bel HOB4.out.res hb
           obtain ⟨q0, q1, q2, q3, q4, qf⟩ := cutZ_cells hh
           have HB := hid hbl
           clear hbl hh hb
           go_wp2_with fail
           refine bodyPost_ret (v := cutV (-1) 0 0 0 (.slice none 0 0)) (by simp [results, Tryz.results94, go_sem, q0, q1, q2, q3, q4]) rfl ⟨?_, ?_⟩
           · exact ((((HB.out.setCell (by simp) _).setCell (by simp) _).setCell (by simp) _).setCell (by simp) _).setCell (by simp) _
           · rw [hrd.out]
             exact ends_none (by rw [Tm.body_fit HH.out HM'.out, HK'.out, HFT.out]; rfl) ⟨0, 0, rfl⟩
         | true =>
           have HFT := hid hfit
           clear hfit
           obtain ⟨q0, q1, q2, q3, q4, qf⟩ := cutZ_cells HOB4.out.res
           go_wp2_with fail
           refine bodyPost_ret (v := cutV (j : Int) (d : Int) 0 0 (.slice (some ⟨g0, 0, none⟩) ps.length kc)) (by simp [results, Tryz.results94, go_sem, q0, q1, q2, q3, q4]) rfl ⟨?_, ?_⟩
           · exact ((((HOB4.out.bel.setCell (by simp) _).setCell (by simp) _).setCell (by simp) _).setCell (by simp) _).setCell (by simp) _
           · rw [hrd.out]
             refine ends_some (x := (d, rest s j)) (by rw [Tm.body_fit HH.out HM'.out, HK'.out, HFT.out]; rfl) ⟨0, 0, some ⟨g0, 0, none⟩, ps.length, kc, ?_, ha, Or.inr (Or.inr ⟨HC.out.1, HC.out.2, ps, ?_, ?_⟩)⟩
             · simp only [rest_len]; congr 3; congr 1; omega
             · exact ownsRow_base (ownsRow_setCell_at (ownsRow_setCell_at (ownsRow_setCell_at (ownsRow_setCell_at (ownsRow_setCell_at HOB4.out.own _ _) _ _) _ _) _ _) _ _) (Nat.le_succ _)
             · rw [rest_cons ha, Tm.body_kids HC.out.1 HC.out.2 HH.out HM'.out, HK'.out]; exact HCUT.out
theorem read_any : ∀ n, n ≤ 64 → RC n
 | 0, _ => fun s a w hs ha => by
   refine (read_none s a 0 w (Or.inr rfl)).mono ?_
   rintro e w' ⟨hb, he⟩
   exact ⟨hb, ends_none rfl ⟨0, 0, he⟩⟩
 | n + 1, h => fun s a w hs ha => by
   by_cases hlt : a < s.size
   · by_cases c1 : s[a] = 110
     · exact read_name s a n w hs hlt c1
     · by_cases c2 : s[a] = 116
       · exact read_text s a n w hs hlt c2
       · by_cases c3 : s[a] = 84
         · exact read_tuple n (read_any n (by omega)) (by omega) s a w hs hlt c1 c2 c3
         · cases hp : Tm.partsN s[a] with
           | none => exact read_noop n (read_any n (by omega)) (by omega) s a w hs hlt c1 c2 c3 hp
           | some k => exact read_parts n (read_any n (by omega)) (by omega) s a w hs hlt c1 c2 c3 k hp
   · refine (read_none s a (n + 1) w (Or.inl (by omega))).mono ?_
     rintro e w' ⟨hb, he⟩
     exact ⟨hb, ends_none (by rw [rest_nil (by omega)]; rfl) ⟨0, 0, he⟩⟩
end Go.Proofs.YtkifchjpgdmcoaaGreatDoor

/- Whether a text is a right term, how long and how deep, as the document reads it. -/
namespace Go.Proofs.YtkifchjpgdmcoaaGreatDoor
open Go.RowKit
theorem deep_of_rd {l : Bs} (h : l.length ≤ 16384) : Tm.deep l = match Tm.rd 64 l with | some (d, []) => d | _ => 0 := by
 unfold Tm.deep
 rw [if_pos h]
 generalize Tm.rd 64 l = o
 match o with
 | none => rfl
 | some (d, []) => rfl
 | some (d, _ :: _) => rfl
theorem deep_long {l : Bs} (h : ¬ l.length ≤ 16384) : Tm.deep l = 0 := by unfold Tm.deep; rw [if_neg h]
set_option maxRecDepth 100000 in
theorem run_end (E D N F : Int) (kv : Value) (w : World) : Sem.run Tryz.prog (Instr.field 109 (cutV E D N F kv) 0) w = .ok (.int .i64 E) w := rfl
theorem read_whole (l : Bs) (w : World) (hl : l.length ≤ 16384) :
   Calls Tryz.prog 94 #[St l, .int .i64 0, .int .i64 64] w fun en w' => Below w.heap.size w w' ∧
     ∃ (E D N F : Int) (ao : Option Addr) (kn kc : Nat), en = .returned (cutV E D N F (.slice ao kn kc)) ∧ (E == (l.length : Int)) = (Tm.deep l != 0) ∧
       (Tm.deep l ≠ 0 → D = (Tm.deep l : Int) ∧ E = (l.length : Int) ∧ Told ⟨l.toArray⟩ 0 63 (Tm.deep l, []) N F (.slice ao kn kc) w.heap.size w') := by
 have hsz : (⟨l.toArray⟩ : ByteArray).size = l.length := st_size l
 refine (read_any 64 (by omega) ⟨l.toArray⟩ 0 w (by rw [hsz]; omega) (by omega)).mono ?_
 rintro e w' ⟨hb, hE⟩
 refine ⟨hb, ?_⟩
 have hr : rest ⟨l.toArray⟩ 0 = l := by simp [rest]
 rw [hr] at hE
 cases hrd : Tm.rd 64 l with
 | none =>
   obtain ⟨D, N, he⟩ := hE.none hrd
   have hd : Tm.deep l = 0 := by rw [deep_of_rd hl, hrd]
   refine ⟨-1, D, N, 0, none, 0, 0, he, ?_, fun h => absurd hd h⟩
   rw [hd]; simp
 | some x =>
   obtain ⟨d, r⟩ := x
   obtain ⟨N, F, ao, kn, kc, he, ht⟩ := hE.some hrd
   obtain ⟨q1, q2, q3, q4⟩ := Tm.rd_len hrd
   rw [hsz] at he
   refine ⟨_, _, N, F, ao, kn, kc, he, ?_, fun h => ?_⟩
   · cases r with
     | nil =>
       have hd : Tm.deep l = d := by rw [deep_of_rd hl, hrd]
       rw [hd]; simp; omega
     | cons c r =>
       have hd : Tm.deep l = 0 := by rw [deep_of_rd hl, hrd]
       rw [hd]; simp at q1 ⊢; omega
   · cases r with
     | nil =>
       have hd : Tm.deep l = d := by rw [deep_of_rd hl, hrd]
       rw [hd]
       exact ⟨rfl, by simp, ht⟩
     | cons c r =>
       have hd : Tm.deep l = 0 := by rw [deep_of_rd hl, hrd]
       exact absurd hd h
set_option maxHeartbeats 1000000 in
set_option maxRecDepth 100000 in
theorem rright_any (l : Bs) (w : World) : Calls Tryz.prog 70 #[St l] w fun en w' => en = .returned (.bool (Tm.deep l != 0)) ∧ Below w.heap.size w w' := by
 have hsz : (⟨l.toArray⟩ : ByteArray).size = l.length := st_size l
 by_cases hl : l.length ≤ 16384
 · have hl' : (l.length : Int) ≤ 16384 := by omega
   go_enter Tryz.func70, Tryz.ntmps70
   go_wp2_with fail
   refine (read_whole l _ hl).mono ?_
   rintro e w1 ⟨hb, E, D, N, F, ao, kn, kc, rfl, hE, _⟩
   have HB := hid hb
   have HE := hid hE
   clear hb hE
   go_wp2_with fail
   rw [run_end]
   go_wp2_with fail
   go_ret
   exact ⟨by rw [← HE.out]; rfl, HB.out⟩
 · have hl' : ¬ (l.length : Int) ≤ 16384 := by omega
   have HD := hid (deep_long hl)
   go_enter Tryz.func70, Tryz.ntmps70
   go_wp2_with fail
   go_ret
   exact ⟨by rw [HD.out]; rfl, Below.refl _ _⟩
end Go.Proofs.YtkifchjpgdmcoaaGreatDoor
