import Derived.Test.YtkifchjpgdmcoaaGreatDoorLooAll
import Derived.Test.YtkifchjpgdmcoaaGreatDoorKids
/- Whether a term can be made of the notes: what makes, agrees, hasKey answer. -/
namespace Go.Proofs.YtkifchjpgdmcoaaGreatDoor
open Go.RowKit Go.Maps Go.WideElems
def Ro (w : World) (o : Option Nat) (N : NM) : Prop := match o with | none => ∀ t, N t = none | some b => Om w b N
structure Rm (w : World) (p : Nat) (o : Option Nat) (N : NM) : Prop where
 ptr : w.heap[p]? = some (.cells #[.map o] 61 (0, 0))
 om : Ro w o N
theorem Rm.lt {w : World} {p : Nat} {o : Option Nat} {N : NM} (h : Rm w p o N) : p < w.heap.size := lt_of_block h.ptr
theorem Rm.below {w w' : World} {p : Nat} {o : Option Nat} {N : NM} (h : Rm w p o N) (hb : Below w.heap.size w w') : Rm w' p o N := by
 refine ⟨(hb.block p h.lt).trans h.ptr, ?_⟩
 have := h.om
 cases o with
 | none => exact this
 | some b => exact Om.same this (hb.block b (Om.lt this))
theorem Rm.cell {w : World} {p : Nat} {o : Option Nat} {N : NM} (h : Rm w p o N) : w.cell? ⟨p, 0, none⟩ = some (.map o) := by
 rw [cell_of_heap h.ptr]; rfl
theorem Rm.ok {w : World} {p : Nat} {o : Option Nat} {N : NM} (h : Rm w p o N) (t : Bs) (ht : t.length ≤ 100000) : (Instr.lookup 59 (.map o) (St t) true).run Tryz.prog w = .ok (.tuple #[(nget N t).v, .bool (N t).isSome]) w := by
 have := h.om
 cases o with
 | none => rw [look_nil_ok w t ht, nget, this t]; rfl
 | some b => exact Om.look_ok this t ht
theorem Rm.one {w : World} {p : Nat} {o : Option Nat} {N : NM} (h : Rm w p o N) (t : Bs) (ht : t.length ≤ 100000) : (Instr.lookup 59 (.map o) (St t) false).run Tryz.prog w = .ok (nget N t).v w := by
 have := h.om
 cases o with
 | none => rw [look_nil w t ht, nget, this t]; rfl
 | some b => exact Om.look this t ht
def hasKeyF (N : NM) (x : Bs) (made : Bool) : Bool := (pubRes x).2 == 0 && (pubRes x).1.head? == some 80 && (made || (N (pubRes x).1).isSome)
def makesF (N : NM) : Nat → Bs → Bool
 | 0, t => (N t).isSome
 | n + 1, t => (N t).isSome || (Tm.deep t != 0 && (
     if t.head? = some 110 then false
     else if t.head? = some 88 then (match Tm.kidsOf 63 t with
       | [a, b] => (makesF N n a && hasKeyF N b (makesF N n b)) || (makesF N n b && hasKeyF N a (makesF N n a))
       | _ => false)
     else (Tm.kidsOf 63 t).all (makesF N n)))
theorem pub_len (x : Bs) (_h : x.length ≤ 100000) : (pubRes x).1.length ≤ 100000 := by
 unfold pubRes
 split
 · simp
 · split
   · simp
   · rename_i h1 h2
     have := (Tm.deep_is h2).2
     show (Tm.pk x).length ≤ _
     omega
set_option maxHeartbeats 2000000 in
theorem hasKey_any (w : World) (p : Nat) (o : Option Nat) (N : NM) (h : Rm w p o N) (x : Bs) (hx : x.length ≤ 100000) (mk : Bool) :
   Calls Tryz.prog 86 #[.pointer (some ⟨p, 0, none⟩), St x, .bool mk] w fun e w' => e = .returned (.bool (hasKeyF N x mk)) ∧ Below w.heap.size w w' := by
 have HK : Hid (hasKeyF N x mk = ((pubRes x).2 == 0 && (pubRes x).1.head? == some 80 && (mk || (N (pubRes x).1).isSome))) := hid rfl
 have HC := hid (fun W => pubs_any x W)
 have HPL := hid (pub_len x hx)
 have HR := hid h
 have HPR : Hid ((pubRes x).2 = 0 → (pubRes x).1 ≠ []) := by
   apply hid
   unfold pubRes
   split
   · intro h; cases h
   · split
     · intro h; cases h
     · rename_i h1 h2; intro _ e; rw [show Tm.pk x = [] from e] at h2; exact h2 (by decide)
 clear h hx
 generalize pubRes x = r at HK HC HPL HPR
 obtain ⟨q, er⟩ := r
 unfold made at HC
 simp only at HK HC HPL HPR
 by_cases h0 : er = 0
 · subst h0
   obtain ⟨c, l, hq⟩ : ∃ c l, q = c :: l := by cases q with | nil => exact absurd rfl (HPR.out rfl) | cons c l => exact ⟨c, l, rfl⟩
   have hpos : 0 < (⟨q.toArray⟩ : ByteArray).size := by rw [st_size, hq]; simp
   have hidx : (⟨q.toArray⟩ : ByteArray)[0] = c := st_idx hq hpos
   have hql : 0 < q.length := by rw [hq]; simp
   have HHD : Hid (q.head? = some c) := by apply hid; rw [hq]; rfl
   clear hq
   by_cases hc : c = 80
   · subst hc
     have HK2 : Hid (hasKeyF N x mk = (mk || (N q).isSome)) := by apply hid; rw [HK.out, HHD.out]; simp
     cases mk
     all_goals
       go_enter Tryz.func86, Tryz.ntmps86
       go_wp2_with fail
       refine (HC.out _).mono ?_
       rintro e w1 ⟨rfl, hb1⟩
       have HB1 := hid hb1
       have hcell := (HR.out.below hb1).cell
       have hlk := (HR.out.below hb1).ok q HPL.out
       clear hb1
       generalize nget N q = nt at hlk
       go_wp2_with fail
       go_ret
       exact ⟨by rw [HK2.out]; simp, HB1.out.alloc HB1.out.size _⟩
   · have hc' : ¬ (c.toNat : Int) = 80 := by intro e; exact hc (UInt8.toNat_inj.1 (by show c.toNat = 80; omega))
     have HK2 : Hid (hasKeyF N x mk = false) := by apply hid; rw [HK.out, HHD.out]; simp [hc]
     go_enter Tryz.func86, Tryz.ntmps86
     go_wp2_with fail
     refine (HC.out _).mono ?_
     rintro e w1 ⟨rfl, hb1⟩
     have HB1 := hid hb1
     clear hb1
     go_wp2_with fail
     go_ret
     exact ⟨by rw [HK2.out]; rfl, HB1.out⟩
 · have he : ¬ (er : Int) = 0 := by omega
   have HK2 : Hid (hasKeyF N x mk = false) := by apply hid; rw [HK.out]; simp [h0]
   clear h0
   go_enter Tryz.func86, Tryz.ntmps86
   go_wp2_with fail
   refine (HC.out _).mono ?_
   rintro e w1 ⟨rfl, hb1⟩
   have HB1 := hid hb1
   clear hb1
   go_wp2_with fail
   go_ret
   exact ⟨by rw [HK2.out]; rfl, HB1.out⟩
end Go.Proofs.YtkifchjpgdmcoaaGreatDoor

/- What makes and agrees answer. -/
namespace Go.Proofs.YtkifchjpgdmcoaaGreatDoor
open Go.RowKit Go.Maps Go.WideElems
def MkC (n : Nat) : Prop := ∀ (w : World) (p : Nat) (o : Option Nat) (N : NM) (t : Bs), Rm w p o N → t.length ≤ 100000 → Tm.deep t ≤ n →
 Calls Tryz.prog 34 #[.pointer (some ⟨p, 0, none⟩), St t] w fun e w' => e = .returned (.bool (makesF N n t)) ∧ Below w.heap.size w w'
def agreesF (N : NM) (n : Nat) (a b : Bs) : Bool := (makesF N n a && hasKeyF N b (makesF N n b)) || (makesF N n b && hasKeyF N a (makesF N n a))
theorem two_below {w0 w1 w2 : World} (h1 : Below w0.heap.size w0 w1) (h2 : Below w1.heap.size w1 w2) : Below w0.heap.size w0 w2 := h1.trans (h2.mono h1.size)
set_option maxHeartbeats 2000000 in
theorem agrees_any {n : Nat} (hM : MkC n) (w : World) (p : Nat) (o : Option Nat) (N : NM) (h : Rm w p o N) (a b : Bs) (ha : a.length ≤ 100000) (hb : b.length ≤ 100000) (da : Tm.deep a ≤ n) (db : Tm.deep b ≤ n) :
   Calls Tryz.prog 64 #[.pointer (some ⟨p, 0, none⟩), St a, St b] w fun e w' => e = .returned (.bool (agreesF N n a b)) ∧ Below w.heap.size w w' := by
 have HM1 := hid (fun W (hR : Rm W p o N) => hM W p o N a hR ha da)
 have HM2 := hid (fun W (hR : Rm W p o N) => hM W p o N b hR hb db)
 have HKB := hid (fun W (hR : Rm W p o N) m => hasKey_any W p o N hR b hb m)
 have HKA := hid (fun W (hR : Rm W p o N) m => hasKey_any W p o N hR a ha m)
 have HE : Hid (agreesF N n a b = ((makesF N n a && hasKeyF N b (makesF N n b)) || (makesF N n b && hasKeyF N a (makesF N n a)))) := hid rfl
 have HR := hid h
 clear h hM ha hb da db
 generalize makesF N n a = ma at HM1 HE
 generalize makesF N n b = mb at HM2 HE
 generalize agreesF N n a b = res at HE ⊢
 generalize hasKeyF N b = kb at HKB HE
 generalize hasKeyF N a = ka at HKA HE
 go_enter Tryz.func64, Tryz.ntmps64
 go_wp2_with fail
 refine (HM1.out _ HR.out).mono ?_
 rintro e w1 ⟨rfl, hb1⟩
 have HR1 := hid (HR.out.below hb1)
 have HB1 := hid hb1
 clear hb1
 go_wp2_with fail
 refine (HM2.out _ HR1.out).mono ?_
 rintro e w2 ⟨rfl, hb2⟩
 have HR2 := hid (HR1.out.below hb2)
 have HB2 := hid (two_below HB1.out hb2)
 clear hb2
 cases ma
 · cases mb
   · go_wp2_with fail
     go_ret
     exact ⟨by rw [HE.out]; rfl, HB2.out⟩
   · go_wp2_with fail
     refine (HKA.out _ HR2.out _).mono ?_
     rintro e w3 ⟨rfl, hb3⟩
     have HB3 := hid (two_below HB2.out hb3)
     clear hb3
     go_wp2_with fail
     go_ret
     exact ⟨by rw [HE.out]; simp, HB3.out⟩
 · go_wp2_with fail
   refine (HKB.out _ HR2.out _).mono ?_
   rintro e w3 ⟨rfl, hb3⟩
   have HB3 := hid (two_below HB2.out hb3)
   have HR3 := hid (HR2.out.below hb3)
   clear hb3
   cases hkb : kb mb
   · cases mb
     · go_wp2_with fail
       go_ret
       exact ⟨by rw [HE.out, hkb]; rfl, HB3.out⟩
     · go_wp2_with fail
       refine (HKA.out _ HR3.out _).mono ?_
       rintro e w4 ⟨rfl, hb4⟩
       have HB4 := hid (two_below HB3.out hb4)
       clear hb4
       go_wp2_with fail
       go_ret
       exact ⟨by rw [HE.out, hkb]; simp, HB4.out⟩
   · go_wp2_with fail
     go_ret
     exact ⟨by rw [HE.out, hkb]; simp, HB3.out⟩
end Go.Proofs.YtkifchjpgdmcoaaGreatDoor
