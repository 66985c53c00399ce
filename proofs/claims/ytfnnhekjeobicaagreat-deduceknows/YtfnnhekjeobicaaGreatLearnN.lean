/- Learn, where nothing was heard so far. -/
import Derived.Test.YtfnnhekjeobicaaGreatLearn
namespace Go.Proofs.YtfnnhekjeobicaaGreat
open Go.RowKit Go.Maps Go.WideElems

theorem Lf.below {w w1 w2 : World} {p : Nat} {o : Option Nat} (h : Lf w w1 p o) (hb : Below w1.heap.size w1 w2) : Lf w w2 p o :=
  ⟨hb.os.trans h.os, hb.tape.trans h.tape, hb.output.trans h.output, Nat.le_trans h.size hb.size, fun i hi hp ho => (hb.block i (Nat.lt_of_lt_of_le hi h.size)).trans (h.block i hi hp ho)⟩
theorem made_md {w w2 : World} {p : Nat} {N : NM} (h : Rm w2 p none N) (hb : Below w.heap.size w w2) (hG : G0 w) :
    Md ((w2.alloc (.map #[] 0)).setCell ⟨p, 0, none⟩ (.map (some w2.heap.size))) p w2.heap.size N ∧ Lf w ((w2.alloc (.map #[] 0)).setCell ⟨p, 0, none⟩ (.map (some w2.heap.size))) p none ∧ G0 ((w2.alloc (.map #[] 0)).setCell ⟨p, 0, none⟩ (.map (some w2.heap.size))) := by
  have hN : N = fun _ => none := funext h.om
  have hpt := (Below.heap_alloc w2 (.map #[] 0) p h.lt).trans h.ptr
  have hpl := h.lt
  have hlf : Lf w ((w2.alloc (.map #[] 0)).setCell ⟨p, 0, none⟩ (.map (some w2.heap.size))) p none := by
    refine ⟨hb.os, hb.tape, hb.output, by have := hb.size; simp [World.setCell]; omega, fun i hi hp _ => ?_⟩
    rw [Below.heap_setCell _ _ _ _ (by show i ≠ p; exact hp), Below.heap_alloc w2 _ i (Nat.lt_of_lt_of_le hi hb.size), hb.block i hi]
  refine ⟨⟨by rw [heap_setCell_same' hpt]; rfl, ?_⟩, hlf, ?_⟩
  · rw [hN]
    exact (Om.made w2).same (Below.heap_setCell _ _ _ _ (by show w2.heap.size ≠ p; omega))
  · have h0 := hG.lt
    have hG2 := hG.below hb
    obtain ⟨m, fr, hm⟩ := hG
    refine ⟨m, fr, (hlf.block 0 h0 (fun e => ?_) (by simp)).trans hm⟩
    obtain ⟨m2, fr2, hm2⟩ := hG2
    have := h.ptr
    rw [← e, hm2] at this
    cases this

set_option maxRecDepth 100000 in
set_option maxHeartbeats 4000000 in
theorem learn_none {U : List Bs} (hU : Uni U) (w : World) (p : Nat) (N : NM) (hM : Rm w p none N) (hO : Ok U N) (hG : G0 w) (t : Bs) (ht : t ∈ U) :
    Calls Tryz.prog 14 #[.pointer (some ⟨p, 0, none⟩), St t] w fun e w' => e = .returned (.int .i64 0) ∧
      ∃ M b, Follow (takeF 64 (N, []) t).1 (takeF 64 (N, []) t).2 [] M ∧ Md w' p b (nput M t ⟨true, (nget M t).held, (nget M t).key⟩) ∧ Ok U (nput M t ⟨true, (nget M t).held, (nget M t).key⟩) ∧ w.heap.size ≤ b ∧ Lf w w' p none ∧ G0 w' := by
  have hh : (nget N t).heard = false := by rw [nget, hM.om t]; rfl
  have h := hU.right t ht
  have HR := hid (fun W => right_list t W)
  have hl2 := (Tm.deep_is h).2
  have htl : t.length ≤ 100000 := by omega
  have hd : (Tm.deep t != 0) = true := by simpa using h
  rw [hd] at HR
  have HM := hid hM
  have HL := hid htl
  have HL2 : Hid ((⟨t.toArray⟩ : ByteArray).size ≤ 20000) := hid (by show t.toArray.size ≤ 20000; simp; omega)
  have HU := hid hU
  have HO := hid hO
  have HG := hid hG
  have HT := hid ht
  clear h hd hM htl hl2 hU hO hG ht
  go_enter Tryz.func14, Tryz.ntmps14
  go_wp2_with fail
  refine (HR.out _).mono ?_
  rintro e w1 ⟨rfl, hb1⟩
  have HB1 := hid hb1
  have hcell := (HM.out.below HB1.out).cell
  have hlk := (HM.out.below HB1.out).one t HL.out
  clear hb1
  generalize nget N t = nt at hlk hh
  obtain ⟨nh, nd, nk⟩ := nt
  simp only at hh
  subst hh
  have hfd : ∀ W, Sem.run Tryz.prog (Instr.field 43 (.agg #[.bool false, .bool nd, .string ⟨nk.toArray⟩]) 0) W = .ok (.bool false) W := fun _ => rfl
  go_wp2_with fail
  refine (look_none w1 p N (HM.out.below HB1.out)).mono ?_
  rintro e w2 ⟨rfl, hb2⟩
  have HB2 := hid (two_below HB1.out hb2)
  have HR2 := hid (HM.out.below HB2.out)
  clear hb2 hlk hcell hfd
  have hcell := HR2.out.cell
  have hfr := fun o => frozen_of_heap ((Below.heap_alloc w2 (.map #[] 0) p HR2.out.lt).trans HR2.out.ptr) o
  have hcell2 : (w2.alloc (.map #[] 0)).cell? ⟨p, 0, none⟩ = some (.map none) := by rw [cell_of_heap ((Below.heap_alloc w2 (.map #[] 0) p HR2.out.lt).trans HR2.out.ptr) 0]; rfl
  have heq := eqlNone
  have hmm := @run_makeMap Tryz.prog
  obtain ⟨hmd, hlf, hg0⟩ := made_md HR2.out HB2.out HG.out
  have HLF2 := hid hlf
  have HSZ2 := hid HB2.out.size
  have HLR : Hid (Lr U w p w2.heap.size N (.slice none 0 0) [] ((w2.alloc (.map #[] 0)).setCell ⟨p, 0, none⟩ (.map (some w2.heap.size)))) := hid ⟨hmd, World.ownsRow_nil _ _ _ _, HO.out, hg0, by simp, by simp, fun g e => by cases e⟩
  clear hmd hlf hg0
  go_wp2_with fail
  clear hfr heq hmm hcell hcell2
  refine (dfresh_any _ _ HL2.out).mono ?_
  rintro e w3 ⟨rfl, hb3⟩
  have HLF3 := hid (HLF2.out.below hb3)
  have HLR3 := hid (HLR.out.below hb3)
  clear hb3 HLR
  go_wp2_with fail
  refine (HLR3.out.take HU.out HT.out).mono ?_
  rintro e w4 ⟨v4, rfl, hfo, hk4⟩
  have HFO := hid hfo
  have HK4 := hid hk4
  obtain ⟨a4, k4, hv4⟩ := own_shape hfo.mn.row
  subst hv4
  clear hfo hk4
  go_wp2_with fail
  refine (follow_any HU.out _ _ _ _ _ _ _ _ HFO.out).mono ?_
  rintro e w5 ⟨M, rfl, hfl, hm5, hok, hkp, hg5⟩
  obtain ⟨v5, hk5⟩ := hkp
  have HFL := hid hfl
  have HM5 := hid hm5
  have HOK := hid hok
  have HG5 := hid hg5
  have HLF : Hid (Lf w w5 p none) := hid (by
    have h3 := HLF3.out
    refine ⟨(hk5.os.trans HK4.out.os).trans h3.os, (hk5.tape.trans HK4.out.tape).trans h3.tape, (hk5.output.trans HK4.out.output).trans h3.output, Nat.le_trans (Nat.le_trans h3.size HK4.out.size) hk5.size, fun i hi hp ho => ?_⟩
    have hib : i ≠ w2.heap.size := by have := HSZ2.out; omega
    have h3s := h3.size
    have h4 := HK4.out.size
    rw [hk5.block i (by omega) hib (by simp [Value.ownBlock]), HK4.out.block i (by omega) hib (by simp [Value.ownBlock]), h3.block i hi hp ho])
  clear hfl hm5 hok hg5 hk5 HFO HK4 HLR3 HLF3
  have hcell := HM5.out.rm.cell
  have hlk := HM5.out.rm.one t HL.out
  have hnt : ∃ x, x = nget M t := ⟨_, rfl⟩
  obtain ⟨nt, hnt⟩ := hnt
  rw [← hnt] at hlk
  obtain ⟨mh, md, mk⟩ := nt
  have HNT := hid hnt
  clear hnt
  go_wp2_with fail
  obtain ⟨w6, hup, hm6, hlf6, hg6, hs3, hs4⟩ := learn_end HU.out HM5.out HOK.out HG5.out HLF.out HL.out (⟨true, md, mk⟩ : Note) (Or.inr HSZ2.out)
  have HM6 := hid hm6
  have HLF6 := hid hlf6
  have HG6 := hid hg6
  have HS3 := hid hs3
  have HS4 := hid hs4
  have hup' : (Instr.mapUpdate 39 (.map (some w2.heap.size)) (St t) (.agg #[.bool true, .bool md, .string ⟨mk.toArray⟩])).run Tryz.prog (w5.alloc (.cells #[.bool true, .bool md, .string ⟨mk.toArray⟩] 43)).drew = .ok () w6 := hup
  have HOK6 : Hid (Ok U (nput M t ⟨true, md, mk⟩)) := hid ⟨HOK.out.dom.put HT.out _, HOK.out.key.put (fun e => by have h0 := HOK.out.key t; rw [← HNT.out] at h0; exact h0 e)⟩
  clear hup hm6 hlf6 hg6 hs3 hs4 hcell hlk HM5 HOK HG5 HLF
  generalize hE : w5.alloc (.cells #[.bool true, .bool md, .string ⟨mk.toArray⟩] 43) = W3 at HS3 HS4 hup' ⊢
  clear hE
  go_region_held3 (fun wx => wx.cell? ⟨p, 0, none⟩ = some (.map (some w2.heap.size)) ∧ wx.cell? ⟨w5.heap.size, 0, none⟩ = some (.bool true) ∧ wx.cell? ⟨w5.heap.size, 1, none⟩ = some (.bool md) ∧ wx.cell? ⟨w5.heap.size, 2, none⟩ = some (.string ⟨mk.toArray⟩)) (first | exact HS3.out | exact HS4.out) (fail)
  clear hup' HS3 HS4
  go_wp2_with fail
  go_ret
  refine ⟨rfl, M, w2.heap.size, HFL.out, ?_⟩
  rw [← HNT.out]
  exact ⟨HM6.out, HOK6.out, HSZ2.out, HLF6.out, HG6.out⟩
end Go.Proofs.YtfnnhekjeobicaaGreat
