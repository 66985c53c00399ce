/- What makes answers. -/
import Derived.Test.YtkifchjpgdmcoaaGreatDoorMakAll
namespace Go.Proofs.YtkifchjpgdmcoaaGreatDoor
open Go.RowKit Go.Maps Go.WideElems
theorem open_yes' (t : Bs) (c : UInt8) (l : Bs) (w : World) (ht : t = c :: l) (hd : Tm.deep t ≠ 0) :
   Calls Tryz.prog 61 #[St t] w fun en w' => ∃ kids, en = .returned (.tuple #[.agg #[.int .u8 (c.toNat : Int), .int .i64 (setN t 0), .string (setX t ⟨#[]⟩), kids], .bool true]) ∧
     w'.ownsRow w.heap.size 22 1 kids (Tm.kidsOf 63 t).length ((Tm.kidsOf 63 t).map St) ∧ Below w.heap.size w w' := by
 subst ht
 exact open_yes c l w hd
theorem Rm.drew {w : World} {p : Nat} {o : Option Nat} {N : NM} (h : Rm w p o N) : Rm w.drew p o N := by
 refine ⟨h.ptr, ?_⟩
 have := h.om
 cases o with
 | none => exact this
 | some b => exact Om.same this rfl
theorem of_drew {B : Nat} {w0 w : World} (h : Below B w0 w) : Below B w0 w.drew := ⟨h.os, h.tape, h.output, h.size, h.block⟩
theorem row_cells {w : World} {base : Nat} {v : Value} {l : List Bs} (h : w.ownsRow base 22 1 v l.length (l.map St)) (h0 : 0 < l.length) :
   ∃ g kc, v = .slice (some ⟨g, 0, none⟩) l.length kc ∧ base ≤ g ∧ g < w.heap.size ∧ ∀ i (hi : i < l.length), w.cell? ⟨g, i, none⟩ = some (St l[i]) := by
 rcases h.2 with ⟨h1, h2⟩ | ⟨g, cap, cur, hv, hb, hg, hc1, hc2, hc3, hc4⟩
 · omega
 · refine ⟨g, cap, hv, hb, lt_of_block hg, fun i hi => ?_⟩
   have e : (cur.toList.take (l.length * 1))[i]? = some (St l[i]) := by rw [hc4]; simp [hi]
   rw [Nat.mul_one, List.getElem?_take_of_lt hi, Array.getElem?_toList] at e
   rw [cell_of_heap hg]
   exact e
set_option maxHeartbeats 4000000 in
theorem mk_there (n : Nat) (w : World) (p : Nat) (o : Option Nat) (N : NM) (t : Bs) (h : Rm w p o N) (ht : t.length ≤ 100000) (hN : (N t).isSome = true) :
   Calls Tryz.prog 34 #[.pointer (some ⟨p, 0, none⟩), St t] w fun e w' => e = .returned (.bool (makesF N n t)) ∧ Below w.heap.size w w' := by
 have HE : Hid (makesF N n t = true) := by apply hid; cases n <;> simp [makesF, hN]
 have hcell := h.cell
 have hlk := h.ok t ht
 rw [hN] at hlk
 clear h hN
 generalize nget N t = nt at hlk
 go_enter Tryz.func34, Tryz.ntmps34
 go_wp2_with fail
 go_ret
 exact ⟨by rw [HE.out]; rfl, (Below.refl _ _).alloc (Nat.le_refl _) _⟩
set_option maxHeartbeats 4000000 in
theorem mk_wrong (n : Nat) (w : World) (p : Nat) (o : Option Nat) (N : NM) (t : Bs) (h : Rm w p o N) (ht : t.length ≤ 100000) (hN : (N t).isSome = false) (hd : Tm.deep t = 0) :
   Calls Tryz.prog 34 #[.pointer (some ⟨p, 0, none⟩), St t] w fun e w' => e = .returned (.bool (makesF N n t)) ∧ Below w.heap.size w w' := by
 have HE : Hid (makesF N n t = false) := by apply hid; cases n <;> simp [makesF, hN, hd]
 have HC := hid (fun W => open_no t W hd)
 have hcell := h.cell
 have hlk := h.ok t ht
 rw [hN] at hlk
 clear h hN hd
 generalize nget N t = nt at hlk
 go_enter Tryz.func34, Tryz.ntmps34
 go_wp2_with fail
 refine (HC.out _).mono ?_
 rintro e w1 ⟨rfl, hb1⟩
 have HB1 := hid (two_below ((Below.refl _ w).alloc (Nat.le_refl _) _) hb1)
 clear hb1
 go_wp2_with fail
 go_ret
 exact ⟨by rw [HE.out]; rfl, HB1.out.alloc HB1.out.size _⟩
set_option maxHeartbeats 4000000 in
theorem mk_step {n : Nat} (hM : MkC n) (w : World) (p : Nat) (o : Option Nat) (N : NM) (t : Bs) (h : Rm w p o N) (ht : t.length ≤ 100000) (hN : (N t).isSome = false) (hd : Tm.deep t ≠ 0) (hdn : Tm.deep t ≤ n + 1) :
   Calls Tryz.prog 34 #[.pointer (some ⟨p, 0, none⟩), St t] w fun e w' => e = .returned (.bool (makesF N (n + 1) t)) ∧ Below w.heap.size w w' := by
 obtain ⟨c, l, htc⟩ : ∃ c l, t = c :: l := by cases t with | nil => exact absurd (by decide) hd | cons c l => exact ⟨c, l, rfl⟩
 have HE : Hid (makesF N (n + 1) t = (if c = 110 then false else if c = 88 then (match Tm.kidsOf 63 t with | [a, b] => agreesF N n a b | _ => false) else (Tm.kidsOf 63 t).all (makesF N n))) := by
   apply hid; rw [makesF, hN]; simp only [Bool.false_or, agreesF]; rw [show (Tm.deep t != 0) = true by simpa using hd, Bool.true_and, htc]; simp; rfl
 have HC := hid (fun W => open_yes' t c l W htc hd)
 have HKL := hid (Tm.kids_count hd)
 have HKR := hid (fun k (hk : k ∈ Tm.kidsOf 63 t) => Tm.kids_right hd hk)
 have HX : Hid (c = 88 → ∃ a b, Tm.kidsOf 63 t = [a, b]) := by
   apply hid
   intro e
   subst e
   rw [htc]
   rw [htc] at hd
   exact Tm.kids_pair hd (by decide) (by decide) (by decide) (by decide) (by decide)
 have hcell := h.cell
 have hlk := h.ok t ht
 have HR := hid h
 have HDN := hid hdn
 rw [hN] at hlk
 clear h hN hd hdn
 generalize nget N t = nt at hlk
 have HTC := hid htc
 clear htc
 generalize hks : Tm.kidsOf 63 t = ks at HE HC HKR HX HKL
 clear hks
 go_enter Tryz.func34, Tryz.ntmps34
 go_wp2_with fail
 refine (HC.out _).mono ?_
 rintro e w1 ⟨kids, rfl, hown, hb1⟩
 have HB1 := hid (two_below ((Below.refl _ w).alloc (Nat.le_refl _) _) hb1)
 have HOW := hid hown
 have HR1 := hid (HR.out.below HB1.out)
 obtain ⟨ao, kc, rfl⟩ := own_shape hown
 clear hb1 hown hcell hlk HC
 generalize setN t 0 = tn
 generalize setX t ⟨#[]⟩ = tx
 by_cases h110 : c = 110
 · subst h110
   go_wp2_with fail
   go_ret
   exact ⟨by rw [HE.out]; rfl, HB1.out.alloc HB1.out.size _⟩
 · have hc110 : ¬ (c.toNat : Int) = 110 := by intro e; exact h110 (UInt8.toNat_inj.1 (by show c.toNat = 110; omega))
   by_cases h88 : c = 88
   · subst h88
     obtain ⟨a, b, hab⟩ := HX.out rfl
     subst hab
     obtain ⟨g, kc', hv, hg1, hg2, hcs⟩ := row_cells HOW.out (by simp)
     cases hv
     have k0 : w1.cell? ⟨g, 0, none⟩ = some (St a) := hcs 0 (by simp)
     have k1 : w1.cell? ⟨g, 1, none⟩ = some (St b) := hcs 1 (by simp)
     have HA : Hid (∀ W, Rm W p o N → Calls Tryz.prog 64 #[.pointer (some ⟨p, 0, none⟩), St a, St b] W fun e w' => e = .returned (.bool (agreesF N n a b)) ∧ Below W.heap.size W w') := by
       apply hid
       intro W hW
       obtain ⟨_, a1, a2, _⟩ := HKR.out a (by simp)
       obtain ⟨_, b1, b2, _⟩ := HKR.out b (by simp)
       have := HDN.out
       exact agrees_any hM W p o N hW a b (by omega) (by omega) (by omega) (by omega)
     have HWX : Hid (Below w.heap.size w (w1.alloc (.cells #[.int .u8 88, .int .i64 tn, .string tx, .slice (some ⟨g, 0, none⟩) 2 kc] 82))) := hid (HB1.out.alloc HB1.out.size _)
     have HRX := hid (HR.out.below HWX.out)
     have HS : Hid ((w1.alloc (.cells #[.int .u8 88, .int .i64 tn, .string tx, .slice (some ⟨g, 0, none⟩) 2 kc] 82)).cell? ⟨w1.heap.size, 3, none⟩ = some (.slice (some ⟨g, 0, none⟩) 2 kc) ∧ (w1.alloc (.cells #[.int .u8 88, .int .i64 tn, .string tx, .slice (some ⟨g, 0, none⟩) 2 kc] 82)).cell? ⟨g, 0, none⟩ = some (St a) ∧ (w1.alloc (.cells #[.int .u8 88, .int .i64 tn, .string tx, .slice (some ⟨g, 0, none⟩) 2 kc] 82)).cell? ⟨g, 1, none⟩ = some (St b)) := by
       apply hid
       refine ⟨by rw [World.cell?_alloc_mark]; rfl, ?_, ?_⟩
       · exact ((Below.refl w1.heap.size w1).alloc (Nat.le_refl _) _ |>.cell (p := ⟨g, 0, none⟩) hg2).trans k0
       · exact ((Below.refl w1.heap.size w1).alloc (Nat.le_refl _) _ |>.cell (p := ⟨g, 1, none⟩) hg2).trans k1
     have HER : Hid (makesF N (n + 1) t = agreesF N n a b) := by apply hid; rw [HE.out]; rfl
     clear hcs k0 k1 HE HOW HX HKR
     go_wp2_with fail
     generalize w1.alloc (.cells #[.int .u8 88, .int .i64 tn, .string tx, .slice (some ⟨g, 0, none⟩) 2 kc] 82) = wX at HWX HRX HS ⊢
     obtain ⟨s1, s2, s3⟩ := HS.out
     have HGX : Hid (w1.heap.size < wX.heap.size ∧ g < wX.heap.size) := hid ⟨World.block_lt_of_cell? wX ⟨w1.heap.size, 3, none⟩ s1, World.block_lt_of_cell? wX ⟨g, 0, none⟩ s2⟩
     have HSB : Hid (∀ W, Below wX.heap.size wX W → W.cell? ⟨w1.heap.size, 3, none⟩ = some (.slice (some ⟨g, 0, none⟩) 2 kc) ∧ W.cell? ⟨g, 0, none⟩ = some (St a) ∧ W.cell? ⟨g, 1, none⟩ = some (St b)) :=
       hid (fun W hb => ⟨(hb.cell (p := ⟨w1.heap.size, 3, none⟩) HGX.out.1).trans s1, (hb.cell (p := ⟨g, 0, none⟩) HGX.out.2).trans s2, (hb.cell (p := ⟨g, 1, none⟩) HGX.out.2).trans s3⟩)
     go_region_held3 (fun wx => wx.cell? ⟨w1.heap.size, 3, none⟩ = some (.slice (some ⟨g, 0, none⟩) 2 kc) ∧ wx.cell? ⟨g, 0, none⟩ = some (St a) ∧ wx.cell? ⟨g, 1, none⟩ = some (St b)) (first | exact HS.out | exact S2.out) (first | (go_at_call 64; refine (HA.out _ HRX.out.drew).mono ?_; rintro e w2 ⟨rfl, hb2⟩; have HB2 := hid (two_below (of_drew (Below.refl wX.heap.size wX)) hb2); have S2 := hid (HSB.out _ HB2.out); clear hb2))
     go_wp2_with fail
     go_ret
     exact ⟨by rw [HER.out]; rfl, two_below HWX.out HB2.out⟩
   · have hc88 : ¬ (c.toNat : Int) = 88 := by intro e; exact h88 (UInt8.toNat_inj.1 (by show c.toNat = 88; omega))
     have hb110 : ((c.toNat : Int) == 110) = false := by simpa using hc110
     have hb88 : ((c.toNat : Int) == 88) = false := by simpa using hc88
     have HER : Hid (makesF N (n + 1) t = ks.all (makesF N n)) := by apply hid; rw [HE.out, if_neg h110, if_neg h88]
     clear HE HX
     have HA : Hid (∀ W i (hi : i < ks.length), Rm W p o N → Calls Tryz.prog 34 #[.pointer (some ⟨p, 0, none⟩), St ks[i]] W fun e w' => e = .returned (.bool (makesF N n ks[i])) ∧ Below W.heap.size W w') := by
       apply hid
       intro W i hi hW
       obtain ⟨_, a1, a2, _⟩ := HKR.out ks[i] (List.getElem_mem hi)
       have := HDN.out
       exact hM W p o N ks[i] hW (by omega) (by omega)
     go_wp2_with fail
     have HWX : Hid (Below w.heap.size w (w1.alloc (.cells #[.int .u8 (c.toNat : Int), .int .i64 tn, .string tx, .slice ao ks.length kc] 82))) := hid (HB1.out.alloc HB1.out.size _)
     have HRX := hid (HR.out.below HWX.out)
     have HOX := hid (HOW.out.alloc (.cells #[.int .u8 (c.toNat : Int), .int .i64 tn, .string tx, .slice ao ks.length kc] 82))
     generalize w1.alloc (.cells #[.int .u8 (c.toNat : Int), .int .i64 tn, .string tx, .slice ao ks.length kc] 82) = wX at HWX HRX HOX ⊢
     clear HOW HR HR1 HB1
     obtain ⟨m, hm⟩ : ∃ m, m = ks.length := ⟨_, rfl⟩
     rw [← hm]
     have HML := hid hm
     have HMB : Hid (m ≤ 100000) := by
       apply hid; have := HKL.out; omega
     have hmb := HMB.out
     clear hm
     go_loopg [47] m (fun gg v wr => ∃ i : Nat, i ≤ m ∧ gg = m - i ∧ v = .int .i64 (i : Int) ∧ Below wX.heap.size wX wr ∧ ∀ j (hj : j < ks.length), j < i → makesF N n ks[j] = true)
     case atStart => exact ⟨0, by omega, by omega, rfl, Below.refl _ _, fun j hj h => by omega⟩
     case round =>
       obtain ⟨i, hi, rfl, rfl, hbel, hall⟩ := hrel
       have HBE := hid hbel
       have HAL := hid hall
       clear hbel hall
       by_cases hil : i < m
       · have hik : i < ks.length := by rw [← HML.out]; exact hil
         obtain ⟨g, kc', hv, hg1, hg2, hcs⟩ := row_cells HOX.out (by omega)
         cases hv
         have hcell := (HBE.out.cell (p := ⟨g, i, none⟩) hg2).trans (hcs i hik)
         have HCI := hid (HA.out wr i hik (HRX.out.below HBE.out))
         generalize hki : ks[i] = ki at hcell HCI
         have HKI := hid hki
         clear hcs hki
         cases hmk : makesF N n ki
         · rw [hmk] at HCI
           go_wp2_with fail
           refine HCI.out.mono ?_
           rintro e w2 ⟨rfl, hb2⟩
           have HB2 := hid (two_below HBE.out hb2)
           clear hb2
           go_wp2_with fail
           go_ret
           refine ⟨?_, two_below HWX.out HB2.out⟩
           have e1 : ks.all (makesF N n) = false := by
             rw [List.all_eq_false]; exact ⟨ks[i], List.getElem_mem hik, by rw [HKI.out, hmk]; simp⟩
           rw [HER.out, e1]; rfl
         · rw [hmk] at HCI
           go_wp2_with fail
           refine HCI.out.mono ?_
           rintro e w2 ⟨rfl, hb2⟩
           have HB2 := hid (two_below HBE.out hb2)
           clear hb2
           go_wp2_with fail
           go_roundg (m - (i + 1))
           case measure => omega
           case rel =>
             refine ⟨i + 1, by omega, rfl, by go_num, HB2.out, fun j hj hji => ?_⟩
             by_cases e : j = i
             · subst e; rw [HKI.out, hmk]
             · exact HAL.out j hj (by omega)
       · go_wp2_with fail
         go_ret
         refine ⟨?_, two_below HWX.out HBE.out⟩
         have e1 : ks.all (makesF N n) = true := by
           rw [List.all_eq_true]; intro k hk; obtain ⟨j, hj, rfl⟩ := List.getElem_of_mem hk; exact HAL.out j hj (by have := HML.out; omega)
         rw [HER.out, e1]; rfl
theorem mk_all : ∀ n, MkC n
 | 0 => fun w p o N t h ht hd => by
   cases hN : (N t).isSome
   · exact mk_wrong 0 w p o N t h ht hN (by omega)
   · exact mk_there 0 w p o N t h ht hN
 | n + 1 => fun w p o N t h ht hd => by
   cases hN : (N t).isSome
   · by_cases h0 : Tm.deep t = 0
     · exact mk_wrong (n + 1) w p o N t h ht hN h0
     · exact mk_step (mk_all n) w p o N t h ht hN h0 hd
   · exact mk_there (n + 1) w p o N t h ht hN
def mkF (N : NM) (t : Bs) : Bool := makesF N 64 t
theorem makes_any (w : World) (p : Nat) (o : Option Nat) (N : NM) (t : Bs) (h : Rm w p o N) (ht : t.length ≤ 100000) :
   Calls Tryz.prog 34 #[.pointer (some ⟨p, 0, none⟩), St t] w fun e w' => e = .returned (.bool (mkF N t)) ∧ Below w.heap.size w w' :=
 mk_all 64 w p o N t h ht (Tm.deep_le t)
end Go.Proofs.YtkifchjpgdmcoaaGreatDoor
