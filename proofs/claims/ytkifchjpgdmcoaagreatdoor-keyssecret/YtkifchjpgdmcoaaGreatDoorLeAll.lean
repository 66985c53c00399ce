import Derived.Test.YtkifchjpgdmcoaaGreatDoorFolAll
/- Going over no notes. -/
namespace Go.Proofs.YtkifchjpgdmcoaaGreatDoor
open Go.RowKit Go.Maps Go.WideElems
set_option maxRecDepth 100000 in
set_option maxHeartbeats 2000000 in
theorem look_none (w : World) (p : Nat) (N : NM) (h : Rm w p none N) :
   Calls Tryz.prog 29 #[.pointer (some ⟨p, 0, none⟩)] w fun e w' => e = .returned (.tuple #[.int .i64 0, .slice none 0 0]) ∧ Below w.heap.size w w' := by
 have hc := h.cell
 have hrg := run_range_nilMap (P := Tryz.prog) w 59 22 63 Tryz.underlying59
 have hnx : ∀ ty, (Instr.next (.pointer (some ⟨w.heap.size, 0, none⟩)) false ty).run Tryz.prog (w.alloc (.mapIter none 0 #[] 0)) = _ := fun ty => run_next_nilMap w ty 0 0 #[]
 go_enter Tryz.func29, Tryz.ntmps29
 go_wp2
 refine wp_loop_rounds 1 ?_
 rw [rounds_succ]
 go_wp2
 go_ret2
 exact ⟨rfl, (Below.refl _ _).alloc (Nat.le_refl _) _⟩
end Go.Proofs.YtkifchjpgdmcoaaGreatDoor

/- Learn. -/
namespace Go.Proofs.YtkifchjpgdmcoaaGreatDoor
open Go.RowKit Go.Maps Go.WideElems
theorem eqlSome (b : Nat) (w : World) : (binOp .eql 59 (.map (some b)) (.map none)).run Tryz.prog w = .ok (.bool false) w := run_eql_map_nil w _ _ _ (some b) Tryz.underlying59
theorem eqlNone (w : World) : (binOp .eql 59 (.map none) (.map none)).run Tryz.prog w = .ok (.bool true) w := run_eql_map_nil w _ _ _ none Tryz.underlying59
set_option maxRecDepth 100000 in
set_option maxHeartbeats 2000000 in
theorem learn_heard (w : World) (p : Nat) (o : Option Nat) (N : NM) (hR : Rm w p o N) (t : Bs) (h : Tm.deep t ≠ 0) (hh : (nget N t).heard = true) :
   Calls Tryz.prog 11 #[.pointer (some ⟨p, 0, none⟩), St t] w fun e w' => e = .returned (.int .i64 0) ∧ Below w.heap.size w w' := by
 have HR := hid (fun W => right_list t W)
 have htl : t.length ≤ 100000 := by have := (Tm.deep_is h).2; omega
 have hd : (Tm.deep t != 0) = true := by simpa using h
 rw [hd] at HR
 have HM := hid hR
 have HL := hid htl
 clear h hd hR htl
 go_enter Tryz.func11, Tryz.ntmps11
 go_wp2_with fail
 refine (HR.out _).mono ?_
 rintro e w1 ⟨rfl, hb1⟩
 have HB1 := hid hb1
 have hcell := (HM.out.below HB1.out).cell
 have hlk := (HM.out.below HB1.out).one t HL.out
 clear hb1
 generalize nget N t = nt at hlk hh
 obtain ⟨nh, nd, nk⟩ := nt
 simp only at hh
 subst hh
 have hfd : ∀ W, Sem.run Tryz.prog (Instr.field 63 (.agg #[.bool true, .bool nd, .string ⟨nk.toArray⟩]) 0) W = .ok (.bool true) W := fun _ => rfl
 go_wp2_with fail
 go_ret
 exact ⟨rfl, HB1.out⟩
structure Lr (U : List Bs) (w : World) (p b : Nat) (N : NM) (vs : Value) (shut : List Bs) (W : World) : Prop where
 md : Md W p b N
 row : W.ownsRow 0 22 1 vs shut.length (shut.map St)
 ok : Ok U N
 g0 : G0 W
 su : ∀ x ∈ shut, x ∈ U
 sl : shut.length ≤ U.length
 own : ∀ g, vs.ownBlock = some g → w.heap.size ≤ g
theorem Lr.below {U : List Bs} {w : World} {p b : Nat} {N : NM} {vs : Value} {shut : List Bs} {W W' : World} (h : Lr U w p b N vs shut W) (hb : Below W.heap.size W W') : Lr U w p b N vs shut W' :=
 ⟨h.md.below hb, own_below h.row hb, h.ok, h.g0.below hb, h.su, h.sl, h.own⟩
theorem Lr.take {U : List Bs} (hU : Uni U) {w : World} {p b : Nat} {N : NM} {vs : Value} {shut : List Bs} {W : World} (h : Lr U w p b N vs shut W) {t : Bs} (ht : t ∈ U) :
   Calls Tryz.prog 32 #[.pointer (some ⟨p, 0, none⟩), St t, .slice none 0 0] W fun e w' => ∃ v', e = .returned v' ∧ Fo U w' vs p b (takeF 64 (N, []) t).1 v' (takeF 64 (N, []) t).2 vs shut w' ∧ Kp W w' b (.slice none 0 0) v' := by
 have htl : t.length ≤ 100000 := by have := (Tm.deep_is (hU.right t ht)).2; omega
 have hM : Mn W p b N (.slice none 0 0) [] := ⟨h.md, World.ownsRow_nil _ _ _ _⟩
 refine (take_all hU 64 W p b N (.slice none 0 0) [] t hM h.ok.dom ht (Tm.deep_le _) (by simp; omega)).mono ?_
 rintro e w' ⟨v', rfl, hm, hk⟩
 have hap : Ap vs (.slice none 0 0) := (ap_none 0 vs).symm
 have h1 := takeF_nu hU 64 N [] t ht
 have h2 := nu_le U N
 have h3 := hU.len
 have h4 := h.sl
 refine ⟨v', rfl, ⟨hm, hk.row h.md h.row hap, (hk.ap h.row hap).symm, Kp.refl _ _ _, ⟨(take_bound hU 64 N [] t h.ok.dom ht).1, takeF_key hU 64 N [] t ht h.ok.key⟩, takeF_mem hU 64 N [] t ht (by simp), h.su, h.g0.kp h.md.om hM.row hk, ?_⟩, hk⟩
 simp at h1
 omega
theorem Over.shut {U : List Bs} {N : NM} {L : List (Bs × Note)} (h : Over N L) (hD : Dom N U) : (∀ x ∈ shutL L, x ∈ U) ∧ (shutL L).length ≤ U.length := by
 have hk : ∀ x ∈ L, x.1 ∈ U := fun x hx => hD _ (by rw [(h.mem x.1 x.2).1 hx]; rfl)
 refine ⟨fun x hx => ?_, ?_⟩
 · obtain ⟨y, hy, rfl⟩ := List.mem_map.1 hx
   exact hk y (List.mem_filter.1 hy).1
 · have h1 := shutL_le L
   have h2 := length_sub h.nodup (U := U) (fun x hx => by obtain ⟨y, hy, rfl⟩ := List.mem_map.1 hx; exact hk y hy)
   simp at h2
   omega
structure Lf (w w' : World) (p : Nat) (o : Option Nat) : Prop where
 os : w'.os = w.os
 tape : w'.tape = w.tape
 output : w'.output = w.output
 size : w.heap.size ≤ w'.heap.size
 block : ∀ i, i < w.heap.size → i ≠ p → some i ≠ o → w'.heap[i]? = w.heap[i]?
theorem learn_end {U : List Bs} (hU : Uni U) {w w5 : World} {p b : Nat} {o : Option Nat} {M : NM} (hM : Md w5 p b M) (hO : Ok U M) (hG : G0 w5) (hL : Lf w w5 p o) {t : Bs} (htl : t.length ≤ 100000) (nt : Note) (hob : o = some b ∨ w.heap.size ≤ b) :
   ∃ w6, (Instr.mapUpdate 59 (.map (some b)) (St t) nt.v).run Tryz.prog (w5.alloc (.cells #[.bool nt.heard, .bool nt.held, .string ⟨nt.key.toArray⟩] 63)).drew = .ok () w6 ∧ Md w6 p b (nput M t nt) ∧ Lf w w6 p o ∧ G0 w6 ∧
     ((w5.alloc (.cells #[.bool nt.heard, .bool nt.held, .string ⟨nt.key.toArray⟩] 63)).cell? ⟨p, 0, none⟩ = some (.map (some b)) ∧ (w5.alloc (.cells #[.bool nt.heard, .bool nt.held, .string ⟨nt.key.toArray⟩] 63)).cell? ⟨w5.heap.size, 0, none⟩ = some (.bool nt.heard) ∧ (w5.alloc (.cells #[.bool nt.heard, .bool nt.held, .string ⟨nt.key.toArray⟩] 63)).cell? ⟨w5.heap.size, 1, none⟩ = some (.bool nt.held) ∧ (w5.alloc (.cells #[.bool nt.heard, .bool nt.held, .string ⟨nt.key.toArray⟩] 63)).cell? ⟨w5.heap.size, 2, none⟩ = some (.string ⟨nt.key.toArray⟩)) ∧
     (w6.cell? ⟨p, 0, none⟩ = some (.map (some b)) ∧ w6.cell? ⟨w5.heap.size, 0, none⟩ = some (.bool nt.heard) ∧ w6.cell? ⟨w5.heap.size, 1, none⟩ = some (.bool nt.held) ∧ w6.cell? ⟨w5.heap.size, 2, none⟩ = some (.string ⟨nt.key.toArray⟩)) := by
 have hb : Below w5.heap.size w5 (w5.alloc (.cells #[.bool nt.heard, .bool nt.held, .string ⟨nt.key.toArray⟩] 63)) := (Below.refl _ _).alloc (Nat.le_refl _) _
 have hnew := heap_alloc_new w5 (.cells #[.bool nt.heard, .bool nt.held, .string ⟨nt.key.toArray⟩] 63)
 have hsz : (w5.alloc (.cells #[.bool nt.heard, .bool nt.held, .string ⟨nt.key.toArray⟩] 63)).heap.size = w5.heap.size + 1 := by simp
 generalize w5.alloc (.cells #[.bool nt.heard, .bool nt.held, .string ⟨nt.key.toArray⟩] 63) = W at *
 have hMW := hM.below hb
 have hMn : Mn W.drew p b M (.slice none 0 0) [] := Mn.drew ⟨hMW, World.ownsRow_nil _ _ _ _⟩
 obtain ⟨w6, hup, hm6, hg6⟩ := store_md hMn hO.dom (by have := hU.len; omega) htl nt
 have hbl := hM.om.lt
 have hnb : w5.heap.size ≠ b := by omega
 have hcp := hMW.rm.cell
 have hc0 := cell_of_heap hnew 0
 have hc1 := cell_of_heap hnew 1
 have hc2 := cell_of_heap hnew 2
 simp only [List.getElem?_toArray, List.getElem?_cons_zero, List.getElem?_cons_succ] at hc0 hc1 hc2
 have hk : Kp w5 w6 b (.slice none 0 0) (.slice none 0 0) := ((Kp.of_below b (.slice none 0 0) hb).below (of_drew (Below.refl _ _))).trans (Kp.map (.slice none 0 0) hg6)
 refine ⟨w6, hup, hm6.md, ⟨hk.os.trans hL.os, hk.tape.trans hL.tape, hk.output.trans hL.output, Nat.le_trans hL.size hk.size, fun i hi hp ho => ?_⟩, hG.kp hM.om (World.ownsRow_nil _ _ _ _) hk, ⟨hcp, hc0, hc1, hc2⟩,
   ⟨hg6.cell (a := ⟨p, 0, none⟩) hcp (fun e => by cases e; exact hM.ne rfl), hg6.cell (a := ⟨w5.heap.size, 0, none⟩) hc0 (fun e => hnb (by simpa using e)), hg6.cell (a := ⟨w5.heap.size, 1, none⟩) hc1 (fun e => hnb (by simpa using e)), hg6.cell (a := ⟨w5.heap.size, 2, none⟩) hc2 (fun e => hnb (by simpa using e))⟩⟩
 rw [hk.block i (Nat.lt_of_lt_of_le hi hL.size) (fun e => by rcases hob with h | h; exact ho (by rw [h, e]); omega) (by simp [Value.ownBlock]), hL.block i hi hp ho]
set_option maxRecDepth 100000 in
set_option maxHeartbeats 4000000 in
theorem learn_some {U : List Bs} (hU : Uni U) (w : World) (p b : Nat) (N : NM) (hM : Md w p b N) (hO : Ok U N) (hG : G0 w) (t : Bs) (ht : t ∈ U) (hh : (nget N t).heard = false) :
   Calls Tryz.prog 11 #[.pointer (some ⟨p, 0, none⟩), St t] w fun e w' => ∃ L, Over N L ∧ ((heardN L = 1024 ∧ e = .returned (.int .i64 3) ∧ Below w.heap.size w w') ∨ (heardN L ≠ 1024 ∧ e = .returned (.int .i64 0) ∧
     ∃ M, Follow (takeF 64 (N, []) t).1 (takeF 64 (N, []) t).2 (shutL L) M ∧ Md w' p b (nput M t ⟨true, (nget M t).held, (nget M t).key⟩) ∧ Ok U (nput M t ⟨true, (nget M t).held, (nget M t).key⟩) ∧ Lf w w' p (some b) ∧ G0 w')) := by
 have h := hU.right t ht
 have HR := hid (fun W => right_list t W)
 have hl2 := (Tm.deep_is h).2
 have htl : t.length ≤ 100000 := by omega
 have hd : (Tm.deep t != 0) = true := by simpa using h
 rw [hd] at HR
 have HM := hid hM
 have HL := hid htl
 have HL2 : Hid ((⟨t.toArray⟩ : ByteArray).size ≤ 20000) := hid (by show t.toArray.size ≤ 20000; simp; omega)
 have HU := hid hU
 have HO := hid hO
 have HG := hid hG
 have HT := hid ht
 clear h hd hM htl hl2 hU hO hG ht
 go_enter Tryz.func11, Tryz.ntmps11
 go_wp2_with fail
 refine (HR.out _).mono ?_
 rintro e w1 ⟨rfl, hb1⟩
 have HB1 := hid hb1
 have hcell := (HM.out.below HB1.out).rm.cell
 have hlk := (HM.out.below HB1.out).rm.one t HL.out
 clear hb1
 generalize nget N t = nt at hlk hh
 obtain ⟨nh, nd, nk⟩ := nt
 simp only at hh
 subst hh
 have hfd : ∀ W, Sem.run Tryz.prog (Instr.field 63 (.agg #[.bool false, .bool nd, .string ⟨nk.toArray⟩]) 0) W = .ok (.bool false) W := fun _ => rfl
 go_wp2_with fail
 refine (look_any w1 p b N (HM.out.below HB1.out) U HO.out.dom (by have := HU.out.len; omega)).mono ?_
 rintro e w2 ⟨v, L, rfl, hov, hown, hb2⟩
 have HB2 := hid (two_below HB1.out hb2)
 have HOV := hid hov
 have HLR : Hid (Lr U w p b N v (shutL L) w2) := hid ⟨HM.out.below HB2.out, own_zero hown, HO.out, HG.out.below HB2.out, (hov.shut HO.out.dom).1, (hov.shut HO.out.dom).2, fun g e => Nat.le_trans HB1.out.size (own_ge hown e).1⟩
 clear hb2 hov hlk hcell hfd
 obtain ⟨av, kv, rfl⟩ := own_shape hown
 clear hown
 have hcell := HLR.out.md.rm.cell
 by_cases hf : heardN L = 1024
 · have HF := hid hf
   have hf2 : (heardN L : Int) = 1024 := by omega
   rw [hf2]
   clear hf hf2
   go_wp2_with fail
   go_ret
   exact ⟨L, HOV.out, Or.inl ⟨HF.out, rfl, HB2.out⟩⟩
 · have HF := hid hf
   have hf2 : ((heardN L : Int) == 1024) = false := by simp; omega
   have hf3 : (heardN L : Int) ≠ 1024 := by omega
   clear hf
   have heq := eqlSome b
   go_wp2_with fail
   refine (dfresh_any _ _ HL2.out).mono ?_
   rintro e w3 ⟨rfl, hb3⟩
   have HB3 := hid (two_below HB2.out hb3)
   have HLR3 := hid (HLR.out.below hb3)
   clear hb3 hcell hf2 hf3 HLR heq
   go_wp2_with fail
   refine (HLR3.out.take HU.out HT.out).mono ?_
   rintro e w4 ⟨v4, rfl, hfo, hk4⟩
   have HFO := hid hfo
   have HK4 := hid hk4
   obtain ⟨a4, k4, hv4⟩ := own_shape hfo.mn.row
   subst hv4
   clear hfo hk4
   go_wp2_with fail
   refine (follow_any HU.out _ _ _ _ _ _ _ _ HFO.out).mono ?_
   rintro e w5 ⟨M, rfl, hfl, hm5, hok, hkp, hg5⟩
   obtain ⟨v5, hk5⟩ := hkp
   have HFL := hid hfl
   have HM5 := hid hm5
   have HOK := hid hok
   have HG5 := hid hg5
   have HLF : Hid (Lf w w5 p (some b)) := hid (by
     refine ⟨(hk5.os.trans HK4.out.os).trans HB3.out.os, (hk5.tape.trans HK4.out.tape).trans HB3.out.tape, (hk5.output.trans HK4.out.output).trans HB3.out.output, Nat.le_trans (Nat.le_trans HB3.out.size HK4.out.size) hk5.size, fun i hi _ hb => ?_⟩
     have hib : i ≠ b := fun e => hb (by rw [e])
     have h3 := HB3.out.size
     have h4 := HK4.out.size
     rw [hk5.block i (by omega) hib (fun e => by have := HLR3.out.own i e; omega), HK4.out.block i (by omega) hib (by simp [Value.ownBlock]), HB3.out.block i hi])
   clear hfl hm5 hok hg5 hk5 HFO HK4 HLR3
   have hcell := HM5.out.rm.cell
   have hlk := HM5.out.rm.one t HL.out
   have hnt : ∃ x, x = nget M t := ⟨_, rfl⟩
   obtain ⟨nt, hnt⟩ := hnt
   rw [← hnt] at hlk
   obtain ⟨mh, md, mk⟩ := nt
   have HNT := hid hnt
   clear hnt
   go_wp2_with fail
   obtain ⟨w6, hup, hm6, hlf6, hg6, hs3, hs4⟩ := learn_end HU.out HM5.out HOK.out HG5.out HLF.out HL.out (⟨true, md, mk⟩ : Note) (Or.inl rfl)
   have HM6 := hid hm6
   have HLF6 := hid hlf6
   have HG6 := hid hg6
   have HS3 := hid hs3
   have HS4 := hid hs4
   have hup' : (Instr.mapUpdate 59 (.map (some b)) (St t) (.agg #[.bool true, .bool md, .string ⟨mk.toArray⟩])).run Tryz.prog (w5.alloc (.cells #[.bool true, .bool md, .string ⟨mk.toArray⟩] 63)).drew = .ok () w6 := hup
   have HOK6 : Hid (Ok U (nput M t ⟨true, md, mk⟩)) := hid ⟨HOK.out.dom.put HT.out _, HOK.out.key.put (fun e => by have h0 := HOK.out.key t; rw [← HNT.out] at h0; exact h0 e)⟩
   clear hup hm6 hlf6 hg6 hs3 hs4 hcell hlk HM5 HOK HG5 HLF
   generalize hE : w5.alloc (.cells #[.bool true, .bool md, .string ⟨mk.toArray⟩] 63) = W3 at HS3 HS4 hup' ⊢
   clear hE
   go_region_held3 (fun wx => wx.cell? ⟨p, 0, none⟩ = some (.map (some b)) ∧ wx.cell? ⟨w5.heap.size, 0, none⟩ = some (.bool true) ∧ wx.cell? ⟨w5.heap.size, 1, none⟩ = some (.bool md) ∧ wx.cell? ⟨w5.heap.size, 2, none⟩ = some (.string ⟨mk.toArray⟩)) (first | exact HS3.out | exact HS4.out) (fail)
   clear hup' HS3 HS4
   go_wp2_with fail
   go_ret
   refine ⟨L, HOV.out, Or.inr ⟨HF.out, rfl, M, HFL.out, ?_⟩⟩
   rw [← HNT.out]
   exact ⟨HM6.out, HOK6.out, HLF6.out, HG6.out⟩
end Go.Proofs.YtkifchjpgdmcoaaGreatDoor

/- Learn, where nothing was heard so far. -/
namespace Go.Proofs.YtkifchjpgdmcoaaGreatDoor
open Go.RowKit Go.Maps Go.WideElems
theorem Lf.below {w w1 w2 : World} {p : Nat} {o : Option Nat} (h : Lf w w1 p o) (hb : Below w1.heap.size w1 w2) : Lf w w2 p o :=
 ⟨hb.os.trans h.os, hb.tape.trans h.tape, hb.output.trans h.output, Nat.le_trans h.size hb.size, fun i hi hp ho => (hb.block i (Nat.lt_of_lt_of_le hi h.size)).trans (h.block i hi hp ho)⟩
theorem made_md {w w2 : World} {p : Nat} {N : NM} (h : Rm w2 p none N) (hb : Below w.heap.size w w2) (hG : G0 w) :
   Md ((w2.alloc (.map #[] 0)).setCell ⟨p, 0, none⟩ (.map (some w2.heap.size))) p w2.heap.size N ∧ Lf w ((w2.alloc (.map #[] 0)).setCell ⟨p, 0, none⟩ (.map (some w2.heap.size))) p none ∧ G0 ((w2.alloc (.map #[] 0)).setCell ⟨p, 0, none⟩ (.map (some w2.heap.size))) := by
 have hN : N = fun _ => none := funext h.om
 have hpt := (Below.heap_alloc w2 (.map #[] 0) p h.lt).trans h.ptr
 have hpl := h.lt
 have hlf : Lf w ((w2.alloc (.map #[] 0)).setCell ⟨p, 0, none⟩ (.map (some w2.heap.size))) p none := by
   refine ⟨hb.os, hb.tape, hb.output, by have := hb.size; simp [World.setCell]; omega, fun i hi hp _ => ?_⟩
   rw [Below.heap_setCell _ _ _ _ (by show i ≠ p; exact hp), Below.heap_alloc w2 _ i (Nat.lt_of_lt_of_le hi hb.size), hb.block i hi]
 refine ⟨⟨by rw [heap_setCell_same' hpt]; rfl, ?_⟩, hlf, ?_⟩
 · rw [hN]
   exact (Om.made w2).same (Below.heap_setCell _ _ _ _ (by show w2.heap.size ≠ p; omega))
 · have h0 := hG.lt
   have hG2 := hG.below hb
   obtain ⟨m, fr, hm⟩ := hG
   refine ⟨m, fr, (hlf.block 2 h0 (fun e => ?_) (by simp)).trans hm⟩
   obtain ⟨m2, fr2, hm2⟩ := hG2
   have := h.ptr
   rw [← e, hm2] at this
   cases this
set_option maxRecDepth 100000 in
set_option maxHeartbeats 4000000 in
theorem learn_none {U : List Bs} (hU : Uni U) (w : World) (p : Nat) (N : NM) (hM : Rm w p none N) (hO : Ok U N) (hG : G0 w) (t : Bs) (ht : t ∈ U) :
   Calls Tryz.prog 11 #[.pointer (some ⟨p, 0, none⟩), St t] w fun e w' => e = .returned (.int .i64 0) ∧
     ∃ M b, Follow (takeF 64 (N, []) t).1 (takeF 64 (N, []) t).2 [] M ∧ Md w' p b (nput M t ⟨true, (nget M t).held, (nget M t).key⟩) ∧ Ok U (nput M t ⟨true, (nget M t).held, (nget M t).key⟩) ∧ w.heap.size ≤ b ∧ Lf w w' p none ∧ G0 w' := by
 have hh : (nget N t).heard = false := by rw [nget, hM.om t]; rfl
 have h := hU.right t ht
 have HR := hid (fun W => right_list t W)
 have hl2 := (Tm.deep_is h).2
 have htl : t.length ≤ 100000 := by omega
 have hd : (Tm.deep t != 0) = true := by simpa using h
 rw [hd] at HR
 have HM := hid hM
 have HL := hid htl
 have HL2 : Hid ((⟨t.toArray⟩ : ByteArray).size ≤ 20000) := hid (by show t.toArray.size ≤ 20000; simp; omega)
 have HU := hid hU
 have HO := hid hO
 have HG := hid hG
 have HT := hid ht
 clear h hd hM htl hl2 hU hO hG ht
 go_enter Tryz.func11, Tryz.ntmps11
 go_wp2_with fail
 refine (HR.out _).mono ?_
 rintro e w1 ⟨rfl, hb1⟩
 have HB1 := hid hb1
 have hcell := (HM.out.below HB1.out).cell
 have hlk := (HM.out.below HB1.out).one t HL.out
 clear hb1
 generalize nget N t = nt at hlk hh
 obtain ⟨nh, nd, nk⟩ := nt
 simp only at hh
 subst hh
 have hfd : ∀ W, Sem.run Tryz.prog (Instr.field 63 (.agg #[.bool false, .bool nd, .string ⟨nk.toArray⟩]) 0) W = .ok (.bool false) W := fun _ => rfl
 go_wp2_with fail
 refine (look_none w1 p N (HM.out.below HB1.out)).mono ?_
 rintro e w2 ⟨rfl, hb2⟩
 have HB2 := hid (two_below HB1.out hb2)
 have HR2 := hid (HM.out.below HB2.out)
 clear hb2 hlk hcell hfd
 have hcell := HR2.out.cell
 have hfr := fun o => frozen_of_heap ((Below.heap_alloc w2 (.map #[] 0) p HR2.out.lt).trans HR2.out.ptr) o
 have hcell2 : (w2.alloc (.map #[] 0)).cell? ⟨p, 0, none⟩ = some (.map none) := by rw [cell_of_heap ((Below.heap_alloc w2 (.map #[] 0) p HR2.out.lt).trans HR2.out.ptr) 0]; rfl
 have heq := eqlNone
 have hmm := @run_makeMap Tryz.prog
 obtain ⟨hmd, hlf, hg0⟩ := made_md HR2.out HB2.out HG.out
 have HLF2 := hid hlf
 have HSZ2 := hid HB2.out.size
 have HLR : Hid (Lr U w p w2.heap.size N (.slice none 0 0) [] ((w2.alloc (.map #[] 0)).setCell ⟨p, 0, none⟩ (.map (some w2.heap.size)))) := hid ⟨hmd, World.ownsRow_nil _ _ _ _, HO.out, hg0, by simp, by simp, fun g e => by cases e⟩
 clear hmd hlf hg0
 go_wp2_with fail
 clear hfr heq hmm hcell hcell2
 refine (dfresh_any _ _ HL2.out).mono ?_
 rintro e w3 ⟨rfl, hb3⟩
 have HLF3 := hid (HLF2.out.below hb3)
 have HLR3 := hid (HLR.out.below hb3)
 clear hb3 HLR
 go_wp2_with fail
 refine (HLR3.out.take HU.out HT.out).mono ?_
 rintro e w4 ⟨v4, rfl, hfo, hk4⟩
 have HFO := hid hfo
 have HK4 := hid hk4
 obtain ⟨a4, k4, hv4⟩ := own_shape hfo.mn.row
 subst hv4
 clear hfo hk4
 go_wp2_with fail
 refine (follow_any HU.out _ _ _ _ _ _ _ _ HFO.out).mono ?_
 rintro e w5 ⟨M, rfl, hfl, hm5, hok, hkp, hg5⟩
 obtain ⟨v5, hk5⟩ := hkp
 have HFL := hid hfl
 have HM5 := hid hm5
 have HOK := hid hok
 have HG5 := hid hg5
 have HLF : Hid (Lf w w5 p none) := hid (by
   have h3 := HLF3.out
   refine ⟨(hk5.os.trans HK4.out.os).trans h3.os, (hk5.tape.trans HK4.out.tape).trans h3.tape, (hk5.output.trans HK4.out.output).trans h3.output, Nat.le_trans (Nat.le_trans h3.size HK4.out.size) hk5.size, fun i hi hp ho => ?_⟩
   have hib : i ≠ w2.heap.size := by have := HSZ2.out; omega
   have h3s := h3.size
   have h4 := HK4.out.size
   rw [hk5.block i (by omega) hib (by simp [Value.ownBlock]), HK4.out.block i (by omega) hib (by simp [Value.ownBlock]), h3.block i hi hp ho])
 clear hfl hm5 hok hg5 hk5 HFO HK4 HLR3 HLF3
 have hcell := HM5.out.rm.cell
 have hlk := HM5.out.rm.one t HL.out
 have hnt : ∃ x, x = nget M t := ⟨_, rfl⟩
 obtain ⟨nt, hnt⟩ := hnt
 rw [← hnt] at hlk
 obtain ⟨mh, md, mk⟩ := nt
 have HNT := hid hnt
 clear hnt
 go_wp2_with fail
 obtain ⟨w6, hup, hm6, hlf6, hg6, hs3, hs4⟩ := learn_end HU.out HM5.out HOK.out HG5.out HLF.out HL.out (⟨true, md, mk⟩ : Note) (Or.inr HSZ2.out)
 have HM6 := hid hm6
 have HLF6 := hid hlf6
 have HG6 := hid hg6
 have HS3 := hid hs3
 have HS4 := hid hs4
 have hup' : (Instr.mapUpdate 59 (.map (some w2.heap.size)) (St t) (.agg #[.bool true, .bool md, .string ⟨mk.toArray⟩])).run Tryz.prog (w5.alloc (.cells #[.bool true, .bool md, .string ⟨mk.toArray⟩] 63)).drew = .ok () w6 := hup
 have HOK6 : Hid (Ok U (nput M t ⟨true, md, mk⟩)) := hid ⟨HOK.out.dom.put HT.out _, HOK.out.key.put (fun e => by have h0 := HOK.out.key t; rw [← HNT.out] at h0; exact h0 e)⟩
 clear hup hm6 hlf6 hg6 hs3 hs4 hcell hlk HM5 HOK HG5 HLF
 generalize hE : w5.alloc (.cells #[.bool true, .bool md, .string ⟨mk.toArray⟩] 63) = W3 at HS3 HS4 hup' ⊢
 clear hE
 go_region_held3 (fun wx => wx.cell? ⟨p, 0, none⟩ = some (.map (some w2.heap.size)) ∧ wx.cell? ⟨w5.heap.size, 0, none⟩ = some (.bool true) ∧ wx.cell? ⟨w5.heap.size, 1, none⟩ = some (.bool md) ∧ wx.cell? ⟨w5.heap.size, 2, none⟩ = some (.string ⟨mk.toArray⟩)) (first | exact HS3.out | exact HS4.out) (fail)
 clear hup' HS3 HS4
 go_wp2_with fail
 go_ret
 refine ⟨rfl, M, w2.heap.size, HFL.out, ?_⟩
 rw [← HNT.out]
 exact ⟨HM6.out, HOK6.out, HSZ2.out, HLF6.out, HG6.out⟩
end Go.Proofs.YtkifchjpgdmcoaaGreatDoor
