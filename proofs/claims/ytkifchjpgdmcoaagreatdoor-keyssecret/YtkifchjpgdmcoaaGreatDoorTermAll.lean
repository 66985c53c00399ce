import Derived.Test.YtkifchjpgdmcoaaGreatDoorInAll
/- What the reader's reading of a term does. -/
namespace Go.Proofs.YtkifchjpgdmcoaaGreatDoor
open Go.RowKit
def setN : Bs → Int → Int
 | [], n => n
 | c :: l, n => if c = 110 then (Tm.nameN l : Int) else n
def setX : Bs → ByteArray → ByteArray
 | [], x => x
 | c :: l, x => if c = 116 then ⟨(Tm.textX l).toArray⟩ else x
def TermG (n : Nat) : Prop :=
 ∀ {w0 : World} {B b : Nat} {s : ByteArray} {lv : Nat} {kp : Bool} {a : Nat} {nn : Int} {tx : ByteArray} {ks : List Bs} {w : World},
   RS w0 B b s lv kp a nn tx ks w → lv + (n + 1) = 64 → (wt kp (lv + 1) = true → B ≤ b + 1) →
   Calls Tryz.prog 103 #[rp b] w fun en w' =>
     Ends (Tm.rd (n + 1) (rest s a)) (fun x => en = .returned (.int .i64 x.1) ∧ RS w0 B b s lv kp (s.size - x.2.length) (upd (wt kp (lv + 1)) nn (setN (rest s a) nn)) (upd (wt kp (lv + 1)) tx (setX (rest s a) tx)) (ks ++ upd (wt kp (lv + 1)) [] (Tm.kidsOf n (rest s a))) w')
       (en = .returned (.int .i64 0) ∧ Bad w0 B b s lv kp w')
def TermAt (n : Nat) (c : UInt8) : Prop :=
 ∀ {w0 : World} {B b : Nat} {s : ByteArray} {lv : Nat} {kp : Bool} {a : Nat} {nn : Int} {tx : ByteArray} {ks : List Bs} {w : World},
   RS w0 B b s lv kp a nn tx ks w → lv + (n + 1) = 64 → (wt kp (lv + 1) = true → B ≤ b + 1) → (ha : a < s.size) → s[a] = c →
   Calls Tryz.prog 103 #[rp b] w fun en w' =>
     Ends (Tm.rd (n + 1) (rest s a)) (fun x => en = .returned (.int .i64 x.1) ∧ RS w0 B b s lv kp (s.size - x.2.length) (upd (wt kp (lv + 1)) nn (setN (rest s a) nn)) (upd (wt kp (lv + 1)) tx (setX (rest s a) tx)) (ks ++ upd (wt kp (lv + 1)) [] (Tm.kidsOf n (rest s a))) w')
       (en = .returned (.int .i64 0) ∧ Bad w0 B b s lv kp w')
theorem Bad.cell {w0 : World} {B b : Nat} {s : ByteArray} {lv : Nat} {kp : Bool} {w : World} (h : Bad w0 B b s lv kp w) : w.cell? ⟨b, 2, none⟩ = some (.int .i64 lv) ∧ w.frozen? ⟨b, 2, none⟩ = false := by
 obtain ⟨a, n, tx, ks, h⟩ := h
 exact ⟨h.cells.2.2.1, h.cells.2.2.2.2 2⟩
theorem Bad.setLv {w0 : World} {B b : Nat} {s : ByteArray} {lv : Nat} {kp : Bool} {w : World} (h : Bad w0 B b s lv kp w) {lv' : Nat} (hl : lv' ≤ 64) (v : Value) (hv : v = .int .i64 lv') : Bad w0 B b s lv' kp (w.setCell ⟨b, 2, none⟩ v) := by
 obtain ⟨a, n, tx, ks, h⟩ := h
 exact (h.setLv hl v hv).bad
set_option maxHeartbeats 1000000 in
theorem term_110 {n : Nat} : TermAt n 110 := by
 intro w0 B b s lv kp a nn tx ks w h hl hB ha hc
 have hsz := h.sz
 have hlv := h.lvb
 have hka := h.kl
 obtain ⟨c0, c1, c2, c3, hf⟩ := h.cells
 have HR := hid h
 have HB0 := hid hB
 have e110 : ((s[a].toNat : Int) == 110) = true := by simp [hc]
 have e116 : ((s[a].toNat : Int) == 116) = false := by simp [hc]
 have e84 : ((s[a].toNat : Int) == 84) = false := by simp [hc]
 have e80 : ((s[a].toNat : Int) == 80) = false := by simp [hc]
 have e72 : ((s[a].toNat : Int) == 72) = false := by simp [hc]
 have e83 : ((s[a].toNat : Int) == 83) = false := by simp [hc]
 have e66 : ((s[a].toNat : Int) == 66) = false := by simp [hc]
 have e68 : ((s[a].toNat : Int) == 68) = false := by simp [hc]
 have e86 : ((s[a].toNat : Int) == 86) = false := by simp [hc]
 have e75 : ((s[a].toNat : Int) == 75) = false := by simp [hc]
 have e88 : ((s[a].toNat : Int) == 88) = false := by simp [hc]
 have e87 : ((s[a].toNat : Int) == 87) = false := by simp [hc]
 have e76 : ((s[a].toNat : Int) == 76) = false := by simp [hc]
 have hend : ((a : Int) == (s.size : Int)) = false := by simp; omega
 have hl64 : ((lv : Int) == 64) = false := by simp; omega
 have HRD : Hid (Tm.rd (n + 1) (rest s a) = Tm.nameA (rest s (a + 1))) := by
   apply hid; rw [rest_cons ha, Tm.rd_cons, hc]; rfl
 have HS : Hid (setN (rest s a) nn = (Tm.nameN (rest s (a + 1)) : Int) ∧ setX (rest s a) tx = tx ∧ Tm.kidsOf n (rest s a) = (fun _ => []) (rest s (a + 1))) := by
   apply hid; rw [rest_cons ha, hc]; exact ⟨rfl, rfl, rfl⟩
 clear h hB hc
 go_enter Tryz.func103, Tryz.ntmps103
 go_wp2_with fail
 go_quiet (fail)
 go_wp2_with fail
 go_quiet (fail)
 go_wp2_with fail
 refine (name_any n (w0 := w0) (B := B) (s := s) (lv := lv + 1) (kp := kp) (a := a + 1) (nn := nn) (tx := tx) (ks := ks) (RS.setLv (RS.setAt (by first | exact (HR.out.drewN _) | exact ((HR.out.drewN _).drewN _)) (by omega) (by omega) _ (by simp)) (by omega) _ (by simp)) (by omega) HB0.out).mono ?_
 rintro e w1 hE
 have HE := hid hE
 clear hE
 cases hr : Tm.nameA (rest s (a + 1)) with
 | none =>
   have H1 := hid hr
   clear hr
   obtain ⟨rfl, hb⟩ := HE.out.none H1.out
   obtain ⟨g2, f2⟩ := hb.cell
   have HB := hid hb
   clear hb
   have g2' : w1.cell? ⟨b, 2, none⟩ = some (.int .i64 ((lv : Int) + 1)) := by rw [g2]; simp
   clear g2
   go_wp2_with fail
   go_ret
   exact ends_none (HRD.out.trans H1.out) ⟨rfl, HB.out.setLv (by omega) _ (by simp)⟩
 | some x =>
   have H1 := hid hr
   clear hr
   obtain ⟨rfl, hb⟩ := HE.out.some H1.out
   obtain ⟨_, _, g2, _, f2⟩ := hb.cells
   have HB := hid hb
   clear hb
   have g2' : w1.cell? ⟨b, 2, none⟩ = some (.int .i64 ((lv : Int) + 1)) := by rw [g2]; simp
   clear g2
   go_wp2_with fail
   go_ret
   refine ends_some (HRD.out.trans H1.out) ⟨rfl, ?_⟩
   rw [HS.out.1, HS.out.2.1, HS.out.2.2]
   exact HB.out.setLv (by omega) _ (by simp)
set_option maxHeartbeats 1000000 in
theorem term_116 {n : Nat} : TermAt n 116 := by
 intro w0 B b s lv kp a nn tx ks w h hl hB ha hc
 have hsz := h.sz
 have hlv := h.lvb
 have hka := h.kl
 obtain ⟨c0, c1, c2, c3, hf⟩ := h.cells
 have HR := hid h
 have HB0 := hid hB
 have e110 : ((s[a].toNat : Int) == 110) = false := by simp [hc]
 have e116 : ((s[a].toNat : Int) == 116) = true := by simp [hc]
 have e84 : ((s[a].toNat : Int) == 84) = false := by simp [hc]
 have e80 : ((s[a].toNat : Int) == 80) = false := by simp [hc]
 have e72 : ((s[a].toNat : Int) == 72) = false := by simp [hc]
 have e83 : ((s[a].toNat : Int) == 83) = false := by simp [hc]
 have e66 : ((s[a].toNat : Int) == 66) = false := by simp [hc]
 have e68 : ((s[a].toNat : Int) == 68) = false := by simp [hc]
 have e86 : ((s[a].toNat : Int) == 86) = false := by simp [hc]
 have e75 : ((s[a].toNat : Int) == 75) = false := by simp [hc]
 have e88 : ((s[a].toNat : Int) == 88) = false := by simp [hc]
 have e87 : ((s[a].toNat : Int) == 87) = false := by simp [hc]
 have e76 : ((s[a].toNat : Int) == 76) = false := by simp [hc]
 have hend : ((a : Int) == (s.size : Int)) = false := by simp; omega
 have hl64 : ((lv : Int) == 64) = false := by simp; omega
 have HRD : Hid (Tm.rd (n + 1) (rest s a) = Tm.textA (rest s (a + 1))) := by
   apply hid; rw [rest_cons ha, Tm.rd_cons, hc]; rfl
 have HS : Hid (setN (rest s a) nn = nn ∧ setX (rest s a) tx = ⟨(Tm.textX (rest s (a + 1))).toArray⟩ ∧ Tm.kidsOf n (rest s a) = (fun _ => []) (rest s (a + 1))) := by
   apply hid; rw [rest_cons ha, hc]; exact ⟨rfl, rfl, rfl⟩
 clear h hB hc
 go_enter Tryz.func103, Tryz.ntmps103
 go_wp2_with fail
 go_quiet (fail)
 go_wp2_with fail
 go_quiet (fail)
 go_wp2_with fail
 refine (bytes_any n (w0 := w0) (B := B) (s := s) (lv := lv + 1) (kp := kp) (a := a + 1) (nn := nn) (tx := tx) (ks := ks) (RS.setLv (RS.setAt (by first | exact (HR.out.drewN _) | exact ((HR.out.drewN _).drewN _)) (by omega) (by omega) _ (by simp)) (by omega) _ (by simp)) (by omega) HB0.out).mono ?_
 rintro e w1 hE
 have HE := hid hE
 clear hE
 cases hr : Tm.textA (rest s (a + 1)) with
 | none =>
   have H1 := hid hr
   clear hr
   obtain ⟨rfl, hb⟩ := HE.out.none H1.out
   obtain ⟨g2, f2⟩ := hb.cell
   have HB := hid hb
   clear hb
   have g2' : w1.cell? ⟨b, 2, none⟩ = some (.int .i64 ((lv : Int) + 1)) := by rw [g2]; simp
   clear g2
   go_wp2_with fail
   go_ret
   exact ends_none (HRD.out.trans H1.out) ⟨rfl, HB.out.setLv (by omega) _ (by simp)⟩
 | some x =>
   have H1 := hid hr
   clear hr
   obtain ⟨rfl, hb⟩ := HE.out.some H1.out
   obtain ⟨_, _, g2, _, f2⟩ := hb.cells
   have HB := hid hb
   clear hb
   have g2' : w1.cell? ⟨b, 2, none⟩ = some (.int .i64 ((lv : Int) + 1)) := by rw [g2]; simp
   clear g2
   go_wp2_with fail
   go_ret
   refine ends_some (HRD.out.trans H1.out) ⟨rfl, ?_⟩
   rw [HS.out.1, HS.out.2.1, HS.out.2.2]
   exact HB.out.setLv (by omega) _ (by simp)
set_option maxHeartbeats 1000000 in
theorem term_84 {n : Nat} (hK : KidC n) : TermAt n 84 := by
 intro w0 B b s lv kp a nn tx ks w h hl hB ha hc
 have hsz := h.sz
 have hlv := h.lvb
 have hka := h.kl
 obtain ⟨c0, c1, c2, c3, hf⟩ := h.cells
 have HR := hid h
 have HB0 := hid hB
 have e110 : ((s[a].toNat : Int) == 110) = false := by simp [hc]
 have e116 : ((s[a].toNat : Int) == 116) = false := by simp [hc]
 have e84 : ((s[a].toNat : Int) == 84) = true := by simp [hc]
 have e80 : ((s[a].toNat : Int) == 80) = false := by simp [hc]
 have e72 : ((s[a].toNat : Int) == 72) = false := by simp [hc]
 have e83 : ((s[a].toNat : Int) == 83) = false := by simp [hc]
 have e66 : ((s[a].toNat : Int) == 66) = false := by simp [hc]
 have e68 : ((s[a].toNat : Int) == 68) = false := by simp [hc]
 have e86 : ((s[a].toNat : Int) == 86) = false := by simp [hc]
 have e75 : ((s[a].toNat : Int) == 75) = false := by simp [hc]
 have e88 : ((s[a].toNat : Int) == 88) = false := by simp [hc]
 have e87 : ((s[a].toNat : Int) == 87) = false := by simp [hc]
 have e76 : ((s[a].toNat : Int) == 76) = false := by simp [hc]
 have hend : ((a : Int) == (s.size : Int)) = false := by simp; omega
 have hl64 : ((lv : Int) == 64) = false := by simp; omega
 have HRD : Hid (Tm.rd (n + 1) (rest s a) = (Tm.tupleA (Tm.rd n)) (rest s (a + 1))) := by
   apply hid; rw [rest_cons ha, Tm.rd_cons, hc]; rfl
 have HS : Hid (setN (rest s a) nn = nn ∧ setX (rest s a) tx = tx ∧ Tm.kidsOf n (rest s a) = (Tm.tupleK (Tm.rd n)) (rest s (a + 1))) := by
   apply hid; rw [rest_cons ha, hc]; exact ⟨rfl, rfl, rfl⟩
 clear h hB hc
 go_enter Tryz.func103, Tryz.ntmps103
 go_wp2_with fail
 go_quiet (fail)
 go_wp2_with fail
 go_quiet (fail)
 go_wp2_with fail
 refine (tuple_any hK (w0 := w0) (B := B) (s := s) (lv := lv + 1) (kp := kp) (a := a + 1) (nn := nn) (tx := tx) (ks := ks) (RS.setLv (RS.setAt (by first | exact (HR.out.drewN _) | exact ((HR.out.drewN _).drewN _)) (by omega) (by omega) _ (by simp)) (by omega) _ (by simp)) (by omega) HB0.out).mono ?_
 rintro e w1 hE
 have HE := hid hE
 clear hE
 cases hr : (Tm.tupleA (Tm.rd n)) (rest s (a + 1)) with
 | none =>
   have H1 := hid hr
   clear hr
   obtain ⟨rfl, hb⟩ := HE.out.none H1.out
   obtain ⟨g2, f2⟩ := hb.cell
   have HB := hid hb
   clear hb
   have g2' : w1.cell? ⟨b, 2, none⟩ = some (.int .i64 ((lv : Int) + 1)) := by rw [g2]; simp
   clear g2
   go_wp2_with fail
   go_ret
   exact ends_none (HRD.out.trans H1.out) ⟨rfl, HB.out.setLv (by omega) _ (by simp)⟩
 | some x =>
   have H1 := hid hr
   clear hr
   obtain ⟨rfl, hb⟩ := HE.out.some H1.out
   obtain ⟨_, _, g2, _, f2⟩ := hb.cells
   have HB := hid hb
   clear hb
   have g2' : w1.cell? ⟨b, 2, none⟩ = some (.int .i64 ((lv : Int) + 1)) := by rw [g2]; simp
   clear g2
   go_wp2_with fail
   go_ret
   refine ends_some (HRD.out.trans H1.out) ⟨rfl, ?_⟩
   rw [HS.out.1, HS.out.2.1, HS.out.2.2]
   exact HB.out.setLv (by omega) _ (by simp)
set_option maxHeartbeats 1000000 in
theorem term_80 {n : Nat} (hK : KidC n) : TermAt n 80 := by
 intro w0 B b s lv kp a nn tx ks w h hl hB ha hc
 have hsz := h.sz
 have hlv := h.lvb
 have hka := h.kl
 obtain ⟨c0, c1, c2, c3, hf⟩ := h.cells
 have HR := hid h
 have HB0 := hid hB
 have e110 : ((s[a].toNat : Int) == 110) = false := by simp [hc]
 have e116 : ((s[a].toNat : Int) == 116) = false := by simp [hc]
 have e84 : ((s[a].toNat : Int) == 84) = false := by simp [hc]
 have e80 : ((s[a].toNat : Int) == 80) = true := by simp [hc]
 have e72 : ((s[a].toNat : Int) == 72) = false := by simp [hc]
 have e83 : ((s[a].toNat : Int) == 83) = false := by simp [hc]
 have e66 : ((s[a].toNat : Int) == 66) = false := by simp [hc]
 have e68 : ((s[a].toNat : Int) == 68) = false := by simp [hc]
 have e86 : ((s[a].toNat : Int) == 86) = false := by simp [hc]
 have e75 : ((s[a].toNat : Int) == 75) = false := by simp [hc]
 have e88 : ((s[a].toNat : Int) == 88) = false := by simp [hc]
 have e87 : ((s[a].toNat : Int) == 87) = false := by simp [hc]
 have e76 : ((s[a].toNat : Int) == 76) = false := by simp [hc]
 have hend : ((a : Int) == (s.size : Int)) = false := by simp; omega
 have hl64 : ((lv : Int) == 64) = false := by simp; omega
 have HRD : Hid (Tm.rd (n + 1) (rest s a) = (Tm.pubA (Tm.rd n)) (rest s (a + 1))) := by
   apply hid; rw [rest_cons ha, Tm.rd_cons, hc]; rfl
 have HS : Hid (setN (rest s a) nn = nn ∧ setX (rest s a) tx = tx ∧ Tm.kidsOf n (rest s a) = (Tm.kids1 (Tm.rd n)) (rest s (a + 1))) := by
   apply hid; rw [rest_cons ha, hc]; exact ⟨rfl, rfl, rfl⟩
 clear h hB hc
 go_enter Tryz.func103, Tryz.ntmps103
 go_wp2_with fail
 go_quiet (fail)
 go_wp2_with fail
 go_quiet (fail)
 go_wp2_with fail
 refine (pub_any (one_any hK) (w0 := w0) (B := B) (s := s) (lv := lv + 1) (kp := kp) (a := a + 1) (nn := nn) (tx := tx) (ks := ks) (RS.setLv (RS.setAt (by first | exact (HR.out.drewN _) | exact ((HR.out.drewN _).drewN _)) (by omega) (by omega) _ (by simp)) (by omega) _ (by simp)) (by omega) HB0.out).mono ?_
 rintro e w1 hE
 have HE := hid hE
 clear hE
 cases hr : (Tm.pubA (Tm.rd n)) (rest s (a + 1)) with
 | none =>
   have H1 := hid hr
   clear hr
   obtain ⟨rfl, hb⟩ := HE.out.none H1.out
   obtain ⟨g2, f2⟩ := hb.cell
   have HB := hid hb
   clear hb
   have g2' : w1.cell? ⟨b, 2, none⟩ = some (.int .i64 ((lv : Int) + 1)) := by rw [g2]; simp
   clear g2
   go_wp2_with fail
   go_ret
   exact ends_none (HRD.out.trans H1.out) ⟨rfl, HB.out.setLv (by omega) _ (by simp)⟩
 | some x =>
   have H1 := hid hr
   clear hr
   obtain ⟨rfl, hb⟩ := HE.out.some H1.out
   obtain ⟨_, _, g2, _, f2⟩ := hb.cells
   have HB := hid hb
   clear hb
   have g2' : w1.cell? ⟨b, 2, none⟩ = some (.int .i64 ((lv : Int) + 1)) := by rw [g2]; simp
   clear g2
   go_wp2_with fail
   go_ret
   refine ends_some (HRD.out.trans H1.out) ⟨rfl, ?_⟩
   rw [HS.out.1, HS.out.2.1, HS.out.2.2]
   exact HB.out.setLv (by omega) _ (by simp)
end Go.Proofs.YtkifchjpgdmcoaaGreatDoor

/- What the reader's reading of a term does: some of the forms. -/
namespace Go.Proofs.YtkifchjpgdmcoaaGreatDoor
open Go.RowKit
set_option maxHeartbeats 1000000 in
theorem term_72 {n : Nat} (hK : KidC n) : TermAt n 72 := by
 intro w0 B b s lv kp a nn tx ks w h hl hB ha hc
 have hsz := h.sz
 have hlv := h.lvb
 have hka := h.kl
 obtain ⟨c0, c1, c2, c3, hf⟩ := h.cells
 have HR := hid h
 have HB0 := hid hB
 have e110 : ((s[a].toNat : Int) == 110) = false := by simp [hc]
 have e116 : ((s[a].toNat : Int) == 116) = false := by simp [hc]
 have e84 : ((s[a].toNat : Int) == 84) = false := by simp [hc]
 have e80 : ((s[a].toNat : Int) == 80) = false := by simp [hc]
 have e72 : ((s[a].toNat : Int) == 72) = true := by simp [hc]
 have e83 : ((s[a].toNat : Int) == 83) = false := by simp [hc]
 have e66 : ((s[a].toNat : Int) == 66) = false := by simp [hc]
 have e68 : ((s[a].toNat : Int) == 68) = false := by simp [hc]
 have e86 : ((s[a].toNat : Int) == 86) = false := by simp [hc]
 have e75 : ((s[a].toNat : Int) == 75) = false := by simp [hc]
 have e88 : ((s[a].toNat : Int) == 88) = false := by simp [hc]
 have e87 : ((s[a].toNat : Int) == 87) = false := by simp [hc]
 have e76 : ((s[a].toNat : Int) == 76) = false := by simp [hc]
 have hend : ((a : Int) == (s.size : Int)) = false := by simp; omega
 have hl64 : ((lv : Int) == 64) = false := by simp; omega
 have HRD : Hid (Tm.rd (n + 1) (rest s a) = (Tm.oneA (Tm.rd n)) (rest s (a + 1))) := by
   apply hid; rw [rest_cons ha, Tm.rd_cons, hc]; rfl
 have HS : Hid (setN (rest s a) nn = nn ∧ setX (rest s a) tx = tx ∧ Tm.kidsOf n (rest s a) = (Tm.kids1 (Tm.rd n)) (rest s (a + 1))) := by
   apply hid; rw [rest_cons ha, hc]; exact ⟨rfl, rfl, rfl⟩
 clear h hB hc
 go_enter Tryz.func103, Tryz.ntmps103
 go_wp2_with fail
 go_quiet (fail)
 go_wp2_with fail
 go_quiet (fail)
 go_wp2_with fail
 refine (one_any hK (w0 := w0) (B := B) (s := s) (lv := lv + 1) (kp := kp) (a := a + 1) (nn := nn) (tx := tx) (ks := ks) (RS.setLv (RS.setAt (by first | exact (HR.out.drewN _) | exact ((HR.out.drewN _).drewN _)) (by omega) (by omega) _ (by simp)) (by omega) _ (by simp)) (by omega) HB0.out).mono ?_
 rintro e w1 hE
 have HE := hid hE
 clear hE
 cases hr : (Tm.oneA (Tm.rd n)) (rest s (a + 1)) with
 | none =>
   have H1 := hid hr
   clear hr
   obtain ⟨rfl, hb⟩ := HE.out.none H1.out
   obtain ⟨g2, f2⟩ := hb.cell
   have HB := hid hb
   clear hb
   have g2' : w1.cell? ⟨b, 2, none⟩ = some (.int .i64 ((lv : Int) + 1)) := by rw [g2]; simp
   clear g2
   go_wp2_with fail
   go_ret
   exact ends_none (HRD.out.trans H1.out) ⟨rfl, HB.out.setLv (by omega) _ (by simp)⟩
 | some x =>
   have H1 := hid hr
   clear hr
   obtain ⟨rfl, hb⟩ := HE.out.some H1.out
   obtain ⟨_, _, g2, _, f2⟩ := hb.cells
   have HB := hid hb
   clear hb
   have g2' : w1.cell? ⟨b, 2, none⟩ = some (.int .i64 ((lv : Int) + 1)) := by rw [g2]; simp
   clear g2
   go_wp2_with fail
   go_ret
   refine ends_some (HRD.out.trans H1.out) ⟨rfl, ?_⟩
   rw [HS.out.1, HS.out.2.1, HS.out.2.2]
   exact HB.out.setLv (by omega) _ (by simp)
set_option maxHeartbeats 1000000 in
theorem term_83 {n : Nat} (hK : KidC n) : TermAt n 83 := by
 intro w0 B b s lv kp a nn tx ks w h hl hB ha hc
 have hsz := h.sz
 have hlv := h.lvb
 have hka := h.kl
 obtain ⟨c0, c1, c2, c3, hf⟩ := h.cells
 have HR := hid h
 have HB0 := hid hB
 have e110 : ((s[a].toNat : Int) == 110) = false := by simp [hc]
 have e116 : ((s[a].toNat : Int) == 116) = false := by simp [hc]
 have e84 : ((s[a].toNat : Int) == 84) = false := by simp [hc]
 have e80 : ((s[a].toNat : Int) == 80) = false := by simp [hc]
 have e72 : ((s[a].toNat : Int) == 72) = false := by simp [hc]
 have e83 : ((s[a].toNat : Int) == 83) = true := by simp [hc]
 have e66 : ((s[a].toNat : Int) == 66) = false := by simp [hc]
 have e68 : ((s[a].toNat : Int) == 68) = false := by simp [hc]
 have e86 : ((s[a].toNat : Int) == 86) = false := by simp [hc]
 have e75 : ((s[a].toNat : Int) == 75) = false := by simp [hc]
 have e88 : ((s[a].toNat : Int) == 88) = false := by simp [hc]
 have e87 : ((s[a].toNat : Int) == 87) = false := by simp [hc]
 have e76 : ((s[a].toNat : Int) == 76) = false := by simp [hc]
 have hend : ((a : Int) == (s.size : Int)) = false := by simp; omega
 have hl64 : ((lv : Int) == 64) = false := by simp; omega
 have HRD : Hid (Tm.rd (n + 1) (rest s a) = (Tm.two2 (Tm.rd n)) (rest s (a + 1))) := by
   apply hid; rw [rest_cons ha, Tm.rd_cons, hc]; rfl
 have HS : Hid (setN (rest s a) nn = nn ∧ setX (rest s a) tx = tx ∧ Tm.kidsOf n (rest s a) = (Tm.kids2 (Tm.rd n)) (rest s (a + 1))) := by
   apply hid; rw [rest_cons ha, hc]; exact ⟨rfl, rfl, rfl⟩
 clear h hB hc
 go_enter Tryz.func103, Tryz.ntmps103
 go_wp2_with fail
 go_quiet (fail)
 go_wp2_with fail
 go_quiet (fail)
 go_wp2_with fail
 refine (two_any (pair_any hK) (w0 := w0) (B := B) (s := s) (lv := lv + 1) (kp := kp) (a := a + 1) (nn := nn) (tx := tx) (ks := ks) (RS.setLv (RS.setAt (by first | exact (HR.out.drewN _) | exact ((HR.out.drewN _).drewN _)) (by omega) (by omega) _ (by simp)) (by omega) _ (by simp)) (by omega) HB0.out).mono ?_
 rintro e w1 hE
 have HE := hid hE
 clear hE
 cases hr : (Tm.two2 (Tm.rd n)) (rest s (a + 1)) with
 | none =>
   have H1 := hid hr
   clear hr
   obtain ⟨rfl, hb⟩ := HE.out.none H1.out
   obtain ⟨g2, f2⟩ := hb.cell
   have HB := hid hb
   clear hb
   have g2' : w1.cell? ⟨b, 2, none⟩ = some (.int .i64 ((lv : Int) + 1)) := by rw [g2]; simp
   clear g2
   go_wp2_with fail
   go_ret
   exact ends_none (HRD.out.trans H1.out) ⟨rfl, HB.out.setLv (by omega) _ (by simp)⟩
 | some x =>
   have H1 := hid hr
   clear hr
   obtain ⟨rfl, hb⟩ := HE.out.some H1.out
   obtain ⟨_, _, g2, _, f2⟩ := hb.cells
   have HB := hid hb
   clear hb
   have g2' : w1.cell? ⟨b, 2, none⟩ = some (.int .i64 ((lv : Int) + 1)) := by rw [g2]; simp
   clear g2
   go_wp2_with fail
   go_ret
   refine ends_some (HRD.out.trans H1.out) ⟨rfl, ?_⟩
   rw [HS.out.1, HS.out.2.1, HS.out.2.2]
   exact HB.out.setLv (by omega) _ (by simp)
set_option maxHeartbeats 1000000 in
theorem term_66 {n : Nat} (hK : KidC n) : TermAt n 66 := by
 intro w0 B b s lv kp a nn tx ks w h hl hB ha hc
 have hsz := h.sz
 have hlv := h.lvb
 have hka := h.kl
 obtain ⟨c0, c1, c2, c3, hf⟩ := h.cells
 have HR := hid h
 have HB0 := hid hB
 have e110 : ((s[a].toNat : Int) == 110) = false := by simp [hc]
 have e116 : ((s[a].toNat : Int) == 116) = false := by simp [hc]
 have e84 : ((s[a].toNat : Int) == 84) = false := by simp [hc]
 have e80 : ((s[a].toNat : Int) == 80) = false := by simp [hc]
 have e72 : ((s[a].toNat : Int) == 72) = false := by simp [hc]
 have e83 : ((s[a].toNat : Int) == 83) = false := by simp [hc]
 have e66 : ((s[a].toNat : Int) == 66) = true := by simp [hc]
 have e68 : ((s[a].toNat : Int) == 68) = false := by simp [hc]
 have e86 : ((s[a].toNat : Int) == 86) = false := by simp [hc]
 have e75 : ((s[a].toNat : Int) == 75) = false := by simp [hc]
 have e88 : ((s[a].toNat : Int) == 88) = false := by simp [hc]
 have e87 : ((s[a].toNat : Int) == 87) = false := by simp [hc]
 have e76 : ((s[a].toNat : Int) == 76) = false := by simp [hc]
 have hend : ((a : Int) == (s.size : Int)) = false := by simp; omega
 have hl64 : ((lv : Int) == 64) = false := by simp; omega
 have HRD : Hid (Tm.rd (n + 1) (rest s a) = (Tm.two2 (Tm.rd n)) (rest s (a + 1))) := by
   apply hid; rw [rest_cons ha, Tm.rd_cons, hc]; rfl
 have HS : Hid (setN (rest s a) nn = nn ∧ setX (rest s a) tx = tx ∧ Tm.kidsOf n (rest s a) = (Tm.kids2 (Tm.rd n)) (rest s (a + 1))) := by
   apply hid; rw [rest_cons ha, hc]; exact ⟨rfl, rfl, rfl⟩
 clear h hB hc
 go_enter Tryz.func103, Tryz.ntmps103
 go_wp2_with fail
 go_quiet (fail)
 go_wp2_with fail
 go_quiet (fail)
 go_wp2_with fail
 refine (two_any (pair_any hK) (w0 := w0) (B := B) (s := s) (lv := lv + 1) (kp := kp) (a := a + 1) (nn := nn) (tx := tx) (ks := ks) (RS.setLv (RS.setAt (by first | exact (HR.out.drewN _) | exact ((HR.out.drewN _).drewN _)) (by omega) (by omega) _ (by simp)) (by omega) _ (by simp)) (by omega) HB0.out).mono ?_
 rintro e w1 hE
 have HE := hid hE
 clear hE
 cases hr : (Tm.two2 (Tm.rd n)) (rest s (a + 1)) with
 | none =>
   have H1 := hid hr
   clear hr
   obtain ⟨rfl, hb⟩ := HE.out.none H1.out
   obtain ⟨g2, f2⟩ := hb.cell
   have HB := hid hb
   clear hb
   have g2' : w1.cell? ⟨b, 2, none⟩ = some (.int .i64 ((lv : Int) + 1)) := by rw [g2]; simp
   clear g2
   go_wp2_with fail
   go_ret
   exact ends_none (HRD.out.trans H1.out) ⟨rfl, HB.out.setLv (by omega) _ (by simp)⟩
 | some x =>
   have H1 := hid hr
   clear hr
   obtain ⟨rfl, hb⟩ := HE.out.some H1.out
   obtain ⟨_, _, g2, _, f2⟩ := hb.cells
   have HB := hid hb
   clear hb
   have g2' : w1.cell? ⟨b, 2, none⟩ = some (.int .i64 ((lv : Int) + 1)) := by rw [g2]; simp
   clear g2
   go_wp2_with fail
   go_ret
   refine ends_some (HRD.out.trans H1.out) ⟨rfl, ?_⟩
   rw [HS.out.1, HS.out.2.1, HS.out.2.2]
   exact HB.out.setLv (by omega) _ (by simp)
set_option maxHeartbeats 1000000 in
theorem term_68 {n : Nat} (hK : KidC n) : TermAt n 68 := by
 intro w0 B b s lv kp a nn tx ks w h hl hB ha hc
 have hsz := h.sz
 have hlv := h.lvb
 have hka := h.kl
 obtain ⟨c0, c1, c2, c3, hf⟩ := h.cells
 have HR := hid h
 have HB0 := hid hB
 have e110 : ((s[a].toNat : Int) == 110) = false := by simp [hc]
 have e116 : ((s[a].toNat : Int) == 116) = false := by simp [hc]
 have e84 : ((s[a].toNat : Int) == 84) = false := by simp [hc]
 have e80 : ((s[a].toNat : Int) == 80) = false := by simp [hc]
 have e72 : ((s[a].toNat : Int) == 72) = false := by simp [hc]
 have e83 : ((s[a].toNat : Int) == 83) = false := by simp [hc]
 have e66 : ((s[a].toNat : Int) == 66) = false := by simp [hc]
 have e68 : ((s[a].toNat : Int) == 68) = true := by simp [hc]
 have e86 : ((s[a].toNat : Int) == 86) = false := by simp [hc]
 have e75 : ((s[a].toNat : Int) == 75) = false := by simp [hc]
 have e88 : ((s[a].toNat : Int) == 88) = false := by simp [hc]
 have e87 : ((s[a].toNat : Int) == 87) = false := by simp [hc]
 have e76 : ((s[a].toNat : Int) == 76) = false := by simp [hc]
 have hend : ((a : Int) == (s.size : Int)) = false := by simp; omega
 have hl64 : ((lv : Int) == 64) = false := by simp; omega
 have HRD : Hid (Tm.rd (n + 1) (rest s a) = (Tm.two2 (Tm.rd n)) (rest s (a + 1))) := by
   apply hid; rw [rest_cons ha, Tm.rd_cons, hc]; rfl
 have HS : Hid (setN (rest s a) nn = nn ∧ setX (rest s a) tx = tx ∧ Tm.kidsOf n (rest s a) = (Tm.kids2 (Tm.rd n)) (rest s (a + 1))) := by
   apply hid; rw [rest_cons ha, hc]; exact ⟨rfl, rfl, rfl⟩
 clear h hB hc
 go_enter Tryz.func103, Tryz.ntmps103
 go_wp2_with fail
 go_quiet (fail)
 go_wp2_with fail
 go_quiet (fail)
 go_wp2_with fail
 refine (two_any (pair_any hK) (w0 := w0) (B := B) (s := s) (lv := lv + 1) (kp := kp) (a := a + 1) (nn := nn) (tx := tx) (ks := ks) (RS.setLv (RS.setAt (by first | exact (HR.out.drewN _) | exact ((HR.out.drewN _).drewN _)) (by omega) (by omega) _ (by simp)) (by omega) _ (by simp)) (by omega) HB0.out).mono ?_
 rintro e w1 hE
 have HE := hid hE
 clear hE
 cases hr : (Tm.two2 (Tm.rd n)) (rest s (a + 1)) with
 | none =>
   have H1 := hid hr
   clear hr
   obtain ⟨rfl, hb⟩ := HE.out.none H1.out
   obtain ⟨g2, f2⟩ := hb.cell
   have HB := hid hb
   clear hb
   have g2' : w1.cell? ⟨b, 2, none⟩ = some (.int .i64 ((lv : Int) + 1)) := by rw [g2]; simp
   clear g2
   go_wp2_with fail
   go_ret
   exact ends_none (HRD.out.trans H1.out) ⟨rfl, HB.out.setLv (by omega) _ (by simp)⟩
 | some x =>
   have H1 := hid hr
   clear hr
   obtain ⟨rfl, hb⟩ := HE.out.some H1.out
   obtain ⟨_, _, g2, _, f2⟩ := hb.cells
   have HB := hid hb
   clear hb
   have g2' : w1.cell? ⟨b, 2, none⟩ = some (.int .i64 ((lv : Int) + 1)) := by rw [g2]; simp
   clear g2
   go_wp2_with fail
   go_ret
   refine ends_some (HRD.out.trans H1.out) ⟨rfl, ?_⟩
   rw [HS.out.1, HS.out.2.1, HS.out.2.2]
   exact HB.out.setLv (by omega) _ (by simp)
set_option maxHeartbeats 1000000 in
theorem term_86 {n : Nat} (hK : KidC n) : TermAt n 86 := by
 intro w0 B b s lv kp a nn tx ks w h hl hB ha hc
 have hsz := h.sz
 have hlv := h.lvb
 have hka := h.kl
 obtain ⟨c0, c1, c2, c3, hf⟩ := h.cells
 have HR := hid h
 have HB0 := hid hB
 have e110 : ((s[a].toNat : Int) == 110) = false := by simp [hc]
 have e116 : ((s[a].toNat : Int) == 116) = false := by simp [hc]
 have e84 : ((s[a].toNat : Int) == 84) = false := by simp [hc]
 have e80 : ((s[a].toNat : Int) == 80) = false := by simp [hc]
 have e72 : ((s[a].toNat : Int) == 72) = false := by simp [hc]
 have e83 : ((s[a].toNat : Int) == 83) = false := by simp [hc]
 have e66 : ((s[a].toNat : Int) == 66) = false := by simp [hc]
 have e68 : ((s[a].toNat : Int) == 68) = false := by simp [hc]
 have e86 : ((s[a].toNat : Int) == 86) = true := by simp [hc]
 have e75 : ((s[a].toNat : Int) == 75) = false := by simp [hc]
 have e88 : ((s[a].toNat : Int) == 88) = false := by simp [hc]
 have e87 : ((s[a].toNat : Int) == 87) = false := by simp [hc]
 have e76 : ((s[a].toNat : Int) == 76) = false := by simp [hc]
 have hend : ((a : Int) == (s.size : Int)) = false := by simp; omega
 have hl64 : ((lv : Int) == 64) = false := by simp; omega
 have HRD : Hid (Tm.rd (n + 1) (rest s a) = (Tm.two2 (Tm.rd n)) (rest s (a + 1))) := by
   apply hid; rw [rest_cons ha, Tm.rd_cons, hc]; rfl
 have HS : Hid (setN (rest s a) nn = nn ∧ setX (rest s a) tx = tx ∧ Tm.kidsOf n (rest s a) = (Tm.kids2 (Tm.rd n)) (rest s (a + 1))) := by
   apply hid; rw [rest_cons ha, hc]; exact ⟨rfl, rfl, rfl⟩
 clear h hB hc
 go_enter Tryz.func103, Tryz.ntmps103
 go_wp2_with fail
 go_quiet (fail)
 go_wp2_with fail
 go_quiet (fail)
 go_wp2_with fail
 refine (two_any (pair_any hK) (w0 := w0) (B := B) (s := s) (lv := lv + 1) (kp := kp) (a := a + 1) (nn := nn) (tx := tx) (ks := ks) (RS.setLv (RS.setAt (by first | exact (HR.out.drewN _) | exact ((HR.out.drewN _).drewN _)) (by omega) (by omega) _ (by simp)) (by omega) _ (by simp)) (by omega) HB0.out).mono ?_
 rintro e w1 hE
 have HE := hid hE
 clear hE
 cases hr : (Tm.two2 (Tm.rd n)) (rest s (a + 1)) with
 | none =>
   have H1 := hid hr
   clear hr
   obtain ⟨rfl, hb⟩ := HE.out.none H1.out
   obtain ⟨g2, f2⟩ := hb.cell
   have HB := hid hb
   clear hb
   have g2' : w1.cell? ⟨b, 2, none⟩ = some (.int .i64 ((lv : Int) + 1)) := by rw [g2]; simp
   clear g2
   go_wp2_with fail
   go_ret
   exact ends_none (HRD.out.trans H1.out) ⟨rfl, HB.out.setLv (by omega) _ (by simp)⟩
 | some x =>
   have H1 := hid hr
   clear hr
   obtain ⟨rfl, hb⟩ := HE.out.some H1.out
   obtain ⟨_, _, g2, _, f2⟩ := hb.cells
   have HB := hid hb
   clear hb
   have g2' : w1.cell? ⟨b, 2, none⟩ = some (.int .i64 ((lv : Int) + 1)) := by rw [g2]; simp
   clear g2
   go_wp2_with fail
   go_ret
   refine ends_some (HRD.out.trans H1.out) ⟨rfl, ?_⟩
   rw [HS.out.1, HS.out.2.1, HS.out.2.2]
   exact HB.out.setLv (by omega) _ (by simp)
end Go.Proofs.YtkifchjpgdmcoaaGreatDoor

/- What the reader's reading of a term does: some of the forms. -/
namespace Go.Proofs.YtkifchjpgdmcoaaGreatDoor
open Go.RowKit
set_option maxHeartbeats 1000000 in
theorem term_75 {n : Nat} (hK : KidC n) : TermAt n 75 := by
 intro w0 B b s lv kp a nn tx ks w h hl hB ha hc
 have hsz := h.sz
 have hlv := h.lvb
 have hka := h.kl
 obtain ⟨c0, c1, c2, c3, hf⟩ := h.cells
 have HR := hid h
 have HB0 := hid hB
 have e110 : ((s[a].toNat : Int) == 110) = false := by simp [hc]
 have e116 : ((s[a].toNat : Int) == 116) = false := by simp [hc]
 have e84 : ((s[a].toNat : Int) == 84) = false := by simp [hc]
 have e80 : ((s[a].toNat : Int) == 80) = false := by simp [hc]
 have e72 : ((s[a].toNat : Int) == 72) = false := by simp [hc]
 have e83 : ((s[a].toNat : Int) == 83) = false := by simp [hc]
 have e66 : ((s[a].toNat : Int) == 66) = false := by simp [hc]
 have e68 : ((s[a].toNat : Int) == 68) = false := by simp [hc]
 have e86 : ((s[a].toNat : Int) == 86) = false := by simp [hc]
 have e75 : ((s[a].toNat : Int) == 75) = true := by simp [hc]
 have e88 : ((s[a].toNat : Int) == 88) = false := by simp [hc]
 have e87 : ((s[a].toNat : Int) == 87) = false := by simp [hc]
 have e76 : ((s[a].toNat : Int) == 76) = false := by simp [hc]
 have hend : ((a : Int) == (s.size : Int)) = false := by simp; omega
 have hl64 : ((lv : Int) == 64) = false := by simp; omega
 have HRD : Hid (Tm.rd (n + 1) (rest s a) = (Tm.two2 (Tm.rd n)) (rest s (a + 1))) := by
   apply hid; rw [rest_cons ha, Tm.rd_cons, hc]; rfl
 have HS : Hid (setN (rest s a) nn = nn ∧ setX (rest s a) tx = tx ∧ Tm.kidsOf n (rest s a) = (Tm.kids2 (Tm.rd n)) (rest s (a + 1))) := by
   apply hid; rw [rest_cons ha, hc]; exact ⟨rfl, rfl, rfl⟩
 clear h hB hc
 go_enter Tryz.func103, Tryz.ntmps103
 go_wp2_with fail
 go_quiet (fail)
 go_wp2_with fail
 go_quiet (fail)
 go_wp2_with fail
 refine (two_any (pair_any hK) (w0 := w0) (B := B) (s := s) (lv := lv + 1) (kp := kp) (a := a + 1) (nn := nn) (tx := tx) (ks := ks) (RS.setLv (RS.setAt (by first | exact (HR.out.drewN _) | exact ((HR.out.drewN _).drewN _)) (by omega) (by omega) _ (by simp)) (by omega) _ (by simp)) (by omega) HB0.out).mono ?_
 rintro e w1 hE
 have HE := hid hE
 clear hE
 cases hr : (Tm.two2 (Tm.rd n)) (rest s (a + 1)) with
 | none =>
   have H1 := hid hr
   clear hr
   obtain ⟨rfl, hb⟩ := HE.out.none H1.out
   obtain ⟨g2, f2⟩ := hb.cell
   have HB := hid hb
   clear hb
   have g2' : w1.cell? ⟨b, 2, none⟩ = some (.int .i64 ((lv : Int) + 1)) := by rw [g2]; simp
   clear g2
   go_wp2_with fail
   go_ret
   exact ends_none (HRD.out.trans H1.out) ⟨rfl, HB.out.setLv (by omega) _ (by simp)⟩
 | some x =>
   have H1 := hid hr
   clear hr
   obtain ⟨rfl, hb⟩ := HE.out.some H1.out
   obtain ⟨_, _, g2, _, f2⟩ := hb.cells
   have HB := hid hb
   clear hb
   have g2' : w1.cell? ⟨b, 2, none⟩ = some (.int .i64 ((lv : Int) + 1)) := by rw [g2]; simp
   clear g2
   go_wp2_with fail
   go_ret
   refine ends_some (HRD.out.trans H1.out) ⟨rfl, ?_⟩
   rw [HS.out.1, HS.out.2.1, HS.out.2.2]
   exact HB.out.setLv (by omega) _ (by simp)
set_option maxHeartbeats 1000000 in
theorem term_88 {n : Nat} (hK : KidC n) : TermAt n 88 := by
 intro w0 B b s lv kp a nn tx ks w h hl hB ha hc
 have hsz := h.sz
 have hlv := h.lvb
 have hka := h.kl
 obtain ⟨c0, c1, c2, c3, hf⟩ := h.cells
 have HR := hid h
 have HB0 := hid hB
 have e110 : ((s[a].toNat : Int) == 110) = false := by simp [hc]
 have e116 : ((s[a].toNat : Int) == 116) = false := by simp [hc]
 have e84 : ((s[a].toNat : Int) == 84) = false := by simp [hc]
 have e80 : ((s[a].toNat : Int) == 80) = false := by simp [hc]
 have e72 : ((s[a].toNat : Int) == 72) = false := by simp [hc]
 have e83 : ((s[a].toNat : Int) == 83) = false := by simp [hc]
 have e66 : ((s[a].toNat : Int) == 66) = false := by simp [hc]
 have e68 : ((s[a].toNat : Int) == 68) = false := by simp [hc]
 have e86 : ((s[a].toNat : Int) == 86) = false := by simp [hc]
 have e75 : ((s[a].toNat : Int) == 75) = false := by simp [hc]
 have e88 : ((s[a].toNat : Int) == 88) = true := by simp [hc]
 have e87 : ((s[a].toNat : Int) == 87) = false := by simp [hc]
 have e76 : ((s[a].toNat : Int) == 76) = false := by simp [hc]
 have hend : ((a : Int) == (s.size : Int)) = false := by simp; omega
 have hl64 : ((lv : Int) == 64) = false := by simp; omega
 have HRD : Hid (Tm.rd (n + 1) (rest s a) = (Tm.agreeA (Tm.rd n)) (rest s (a + 1))) := by
   apply hid; rw [rest_cons ha, Tm.rd_cons, hc]; rfl
 have HS : Hid (setN (rest s a) nn = nn ∧ setX (rest s a) tx = tx ∧ Tm.kidsOf n (rest s a) = (Tm.kids2 (Tm.rd n)) (rest s (a + 1))) := by
   apply hid; rw [rest_cons ha, hc]; exact ⟨rfl, rfl, rfl⟩
 clear h hB hc
 go_enter Tryz.func103, Tryz.ntmps103
 go_wp2_with fail
 go_quiet (fail)
 go_wp2_with fail
 go_quiet (fail)
 go_wp2_with fail
 refine (agree_any (pair_any hK) (w0 := w0) (B := B) (s := s) (lv := lv + 1) (kp := kp) (a := a + 1) (nn := nn) (tx := tx) (ks := ks) (RS.setLv (RS.setAt (by first | exact (HR.out.drewN _) | exact ((HR.out.drewN _).drewN _)) (by omega) (by omega) _ (by simp)) (by omega) _ (by simp)) (by omega) HB0.out).mono ?_
 rintro e w1 hE
 have HE := hid hE
 clear hE
 cases hr : (Tm.agreeA (Tm.rd n)) (rest s (a + 1)) with
 | none =>
   have H1 := hid hr
   clear hr
   obtain ⟨rfl, hb⟩ := HE.out.none H1.out
   obtain ⟨g2, f2⟩ := hb.cell
   have HB := hid hb
   clear hb
   have g2' : w1.cell? ⟨b, 2, none⟩ = some (.int .i64 ((lv : Int) + 1)) := by rw [g2]; simp
   clear g2
   go_wp2_with fail
   go_ret
   exact ends_none (HRD.out.trans H1.out) ⟨rfl, HB.out.setLv (by omega) _ (by simp)⟩
 | some x =>
   have H1 := hid hr
   clear hr
   obtain ⟨rfl, hb⟩ := HE.out.some H1.out
   obtain ⟨_, _, g2, _, f2⟩ := hb.cells
   have HB := hid hb
   clear hb
   have g2' : w1.cell? ⟨b, 2, none⟩ = some (.int .i64 ((lv : Int) + 1)) := by rw [g2]; simp
   clear g2
   go_wp2_with fail
   go_ret
   refine ends_some (HRD.out.trans H1.out) ⟨rfl, ?_⟩
   rw [HS.out.1, HS.out.2.1, HS.out.2.2]
   exact HB.out.setLv (by omega) _ (by simp)
set_option maxHeartbeats 1000000 in
theorem term_87 {n : Nat} (hK : KidC n) : TermAt n 87 := by
 intro w0 B b s lv kp a nn tx ks w h hl hB ha hc
 have hsz := h.sz
 have hlv := h.lvb
 have hka := h.kl
 obtain ⟨c0, c1, c2, c3, hf⟩ := h.cells
 have HR := hid h
 have HB0 := hid hB
 have e110 : ((s[a].toNat : Int) == 110) = false := by simp [hc]
 have e116 : ((s[a].toNat : Int) == 116) = false := by simp [hc]
 have e84 : ((s[a].toNat : Int) == 84) = false := by simp [hc]
 have e80 : ((s[a].toNat : Int) == 80) = false := by simp [hc]
 have e72 : ((s[a].toNat : Int) == 72) = false := by simp [hc]
 have e83 : ((s[a].toNat : Int) == 83) = false := by simp [hc]
 have e66 : ((s[a].toNat : Int) == 66) = false := by simp [hc]
 have e68 : ((s[a].toNat : Int) == 68) = false := by simp [hc]
 have e86 : ((s[a].toNat : Int) == 86) = false := by simp [hc]
 have e75 : ((s[a].toNat : Int) == 75) = false := by simp [hc]
 have e88 : ((s[a].toNat : Int) == 88) = false := by simp [hc]
 have e87 : ((s[a].toNat : Int) == 87) = true := by simp [hc]
 have e76 : ((s[a].toNat : Int) == 76) = false := by simp [hc]
 have hend : ((a : Int) == (s.size : Int)) = false := by simp; omega
 have hl64 : ((lv : Int) == 64) = false := by simp; omega
 have HRD : Hid (Tm.rd (n + 1) (rest s a) = (Tm.jointA (Tm.rd n)) (rest s (a + 1))) := by
   apply hid; rw [rest_cons ha, Tm.rd_cons, hc]; rfl
 have HS : Hid (setN (rest s a) nn = nn ∧ setX (rest s a) tx = tx ∧ Tm.kidsOf n (rest s a) = (Tm.kids2 (Tm.rd n)) (rest s (a + 1))) := by
   apply hid; rw [rest_cons ha, hc]; exact ⟨rfl, rfl, rfl⟩
 clear h hB hc
 go_enter Tryz.func103, Tryz.ntmps103
 go_wp2_with fail
 go_quiet (fail)
 go_wp2_with fail
 go_quiet (fail)
 go_wp2_with fail
 refine (joint_any (pair_any hK) (w0 := w0) (B := B) (s := s) (lv := lv + 1) (kp := kp) (a := a + 1) (nn := nn) (tx := tx) (ks := ks) (RS.setLv (RS.setAt (by first | exact (HR.out.drewN _) | exact ((HR.out.drewN _).drewN _)) (by omega) (by omega) _ (by simp)) (by omega) _ (by simp)) (by omega) HB0.out).mono ?_
 rintro e w1 hE
 have HE := hid hE
 clear hE
 cases hr : (Tm.jointA (Tm.rd n)) (rest s (a + 1)) with
 | none =>
   have H1 := hid hr
   clear hr
   obtain ⟨rfl, hb⟩ := HE.out.none H1.out
   obtain ⟨g2, f2⟩ := hb.cell
   have HB := hid hb
   clear hb
   have g2' : w1.cell? ⟨b, 2, none⟩ = some (.int .i64 ((lv : Int) + 1)) := by rw [g2]; simp
   clear g2
   go_wp2_with fail
   go_ret
   exact ends_none (HRD.out.trans H1.out) ⟨rfl, HB.out.setLv (by omega) _ (by simp)⟩
 | some x =>
   have H1 := hid hr
   clear hr
   obtain ⟨rfl, hb⟩ := HE.out.some H1.out
   obtain ⟨_, _, g2, _, f2⟩ := hb.cells
   have HB := hid hb
   clear hb
   have g2' : w1.cell? ⟨b, 2, none⟩ = some (.int .i64 ((lv : Int) + 1)) := by rw [g2]; simp
   clear g2
   go_wp2_with fail
   go_ret
   refine ends_some (HRD.out.trans H1.out) ⟨rfl, ?_⟩
   rw [HS.out.1, HS.out.2.1, HS.out.2.2]
   exact HB.out.setLv (by omega) _ (by simp)
set_option maxHeartbeats 1000000 in
theorem term_76 {n : Nat} (hK : KidC n) : TermAt n 76 := by
 intro w0 B b s lv kp a nn tx ks w h hl hB ha hc
 have hsz := h.sz
 have hlv := h.lvb
 have hka := h.kl
 obtain ⟨c0, c1, c2, c3, hf⟩ := h.cells
 have HR := hid h
 have HB0 := hid hB
 have e110 : ((s[a].toNat : Int) == 110) = false := by simp [hc]
 have e116 : ((s[a].toNat : Int) == 116) = false := by simp [hc]
 have e84 : ((s[a].toNat : Int) == 84) = false := by simp [hc]
 have e80 : ((s[a].toNat : Int) == 80) = false := by simp [hc]
 have e72 : ((s[a].toNat : Int) == 72) = false := by simp [hc]
 have e83 : ((s[a].toNat : Int) == 83) = false := by simp [hc]
 have e66 : ((s[a].toNat : Int) == 66) = false := by simp [hc]
 have e68 : ((s[a].toNat : Int) == 68) = false := by simp [hc]
 have e86 : ((s[a].toNat : Int) == 86) = false := by simp [hc]
 have e75 : ((s[a].toNat : Int) == 75) = false := by simp [hc]
 have e88 : ((s[a].toNat : Int) == 88) = false := by simp [hc]
 have e87 : ((s[a].toNat : Int) == 87) = false := by simp [hc]
 have e76 : ((s[a].toNat : Int) == 76) = true := by simp [hc]
 have hend : ((a : Int) == (s.size : Int)) = false := by simp; omega
 have hl64 : ((lv : Int) == 64) = false := by simp; omega
 have HRD : Hid (Tm.rd (n + 1) (rest s a) = (Tm.boundA (Tm.rd n)) (rest s (a + 1))) := by
   apply hid; rw [rest_cons ha, Tm.rd_cons, hc]; rfl
 have HS : Hid (setN (rest s a) nn = nn ∧ setX (rest s a) tx = tx ∧ Tm.kidsOf n (rest s a) = (Tm.kids2 (Tm.rd n)) (rest s (a + 1))) := by
   apply hid; rw [rest_cons ha, hc]; exact ⟨rfl, rfl, rfl⟩
 clear h hB hc
 go_enter Tryz.func103, Tryz.ntmps103
 go_wp2_with fail
 go_quiet (fail)
 go_wp2_with fail
 go_quiet (fail)
 go_wp2_with fail
 refine (bound_any (two_any (pair_any hK)) (w0 := w0) (B := B) (s := s) (lv := lv + 1) (kp := kp) (a := a + 1) (nn := nn) (tx := tx) (ks := ks) (RS.setLv (RS.setAt (by first | exact (HR.out.drewN _) | exact ((HR.out.drewN _).drewN _)) (by omega) (by omega) _ (by simp)) (by omega) _ (by simp)) (by omega) HB0.out).mono ?_
 rintro e w1 hE
 have HE := hid hE
 clear hE
 cases hr : (Tm.boundA (Tm.rd n)) (rest s (a + 1)) with
 | none =>
   have H1 := hid hr
   clear hr
   obtain ⟨rfl, hb⟩ := HE.out.none H1.out
   obtain ⟨g2, f2⟩ := hb.cell
   have HB := hid hb
   clear hb
   have g2' : w1.cell? ⟨b, 2, none⟩ = some (.int .i64 ((lv : Int) + 1)) := by rw [g2]; simp
   clear g2
   go_wp2_with fail
   go_ret
   exact ends_none (HRD.out.trans H1.out) ⟨rfl, HB.out.setLv (by omega) _ (by simp)⟩
 | some x =>
   have H1 := hid hr
   clear hr
   obtain ⟨rfl, hb⟩ := HE.out.some H1.out
   obtain ⟨_, _, g2, _, f2⟩ := hb.cells
   have HB := hid hb
   clear hb
   have g2' : w1.cell? ⟨b, 2, none⟩ = some (.int .i64 ((lv : Int) + 1)) := by rw [g2]; simp
   clear g2
   go_wp2_with fail
   go_ret
   refine ends_some (HRD.out.trans H1.out) ⟨rfl, ?_⟩
   rw [HS.out.1, HS.out.2.1, HS.out.2.2]
   exact HB.out.setLv (by omega) _ (by simp)
end Go.Proofs.YtkifchjpgdmcoaaGreatDoor

/- What the reader's reading of a term does, at every level; the whole text's reading. -/
namespace Go.Proofs.YtkifchjpgdmcoaaGreatDoor
open Go.RowKit
set_option maxHeartbeats 1000000 in
theorem term_end {n : Nat} {w0 : World} {B b : Nat} {s : ByteArray} {lv : Nat} {kp : Bool} {a : Nat} {nn : Int} {tx : ByteArray} {ks : List Bs} {w : World}
   (h : RS w0 B b s lv kp a nn tx ks w) (ha : a = s.size) :
   Calls Tryz.prog 103 #[rp b] w fun en w' => Tm.rd n (rest s a) = none ∧ en = .returned (.int .i64 0) ∧ Bad w0 B b s lv kp w' := by
 obtain ⟨c0, c1, c2, c3, hf⟩ := h.cells
 have HR := hid h
 have hend : ((a : Int) == (s.size : Int)) = true := by simp; omega
 have HN : Hid (Tm.rd n (rest s a) = none) := by
   apply hid; rw [rest_nil (by omega)]; cases n <;> rfl
 clear h ha
 go_enter Tryz.func103, Tryz.ntmps103
 go_wp2_with fail
 go_quiet (fail)
 go_wp2_with fail
 go_ret
 exact ⟨HN.out, rfl, (HR.out.drewN _).bad⟩
set_option maxHeartbeats 1000000 in
theorem term_deep {w0 : World} {B b : Nat} {s : ByteArray} {lv : Nat} {kp : Bool} {a : Nat} {nn : Int} {tx : ByteArray} {ks : List Bs} {w : World}
   (h : RS w0 B b s lv kp a nn tx ks w) (ha : a < s.size) (hl : lv = 64) :
   Calls Tryz.prog 103 #[rp b] w fun en w' => en = .returned (.int .i64 0) ∧ Bad w0 B b s lv kp w' := by
 obtain ⟨c0, c1, c2, c3, hf⟩ := h.cells
 have HR := hid h
 have hend : ((a : Int) == (s.size : Int)) = false := by simp; omega
 have hl64 : ((lv : Int) == 64) = true := by simp; omega
 clear h hl
 go_enter Tryz.func103, Tryz.ntmps103
 go_wp2_with fail
 go_quiet (fail)
 go_wp2_with fail
 go_ret
 exact ⟨rfl, (HR.out.drewN _).bad⟩
set_option maxHeartbeats 1000000 in
theorem term_none {n : Nat} {w0 : World} {B b : Nat} {s : ByteArray} {lv : Nat} {kp : Bool} {a : Nat} {nn : Int} {tx : ByteArray} {ks : List Bs} {w : World}
   (h : RS w0 B b s lv kp a nn tx ks w) (hl : lv < 64) (ha : a < s.size)
   (hc : s[a] ≠ 110 ∧ s[a] ≠ 116 ∧ s[a] ≠ 84 ∧ s[a] ≠ 80 ∧ s[a] ≠ 72 ∧ s[a] ≠ 83 ∧ s[a] ≠ 66 ∧ s[a] ≠ 68 ∧ s[a] ≠ 86 ∧ s[a] ≠ 75 ∧ s[a] ≠ 88 ∧ s[a] ≠ 87 ∧ s[a] ≠ 76) :
   Calls Tryz.prog 103 #[rp b] w fun en w' => Tm.rd (n + 1) (rest s a) = none ∧ en = .returned (.int .i64 0) ∧ Bad w0 B b s lv kp w' := by
 have hsz := h.sz
 have hlv := h.lvb
 have hka := h.kl
 obtain ⟨c0, c1, c2, c3, hf⟩ := h.cells
 have HR := hid h
 have hend : ((a : Int) == (s.size : Int)) = false := by simp; omega
 have hl64 : ((lv : Int) == 64) = false := by simp; omega
 have hh : ∀ k : UInt8, s[a] ≠ k → ((s[a].toNat : Int) == (k.toNat : Int)) = false := fun k hk => by simp; intro h; exact hk (UInt8.toNat_inj.1 (by omega))
 obtain ⟨k1, k2, k3, k4, k5, k6, k7, k8, k9, k10, k11, k12, k13⟩ := hc
 have HN : Hid (Tm.rd (n + 1) (rest s a) = none) := by
   apply hid
   rw [rest_cons ha, Tm.rd_cons, if_neg k1, if_neg k2, if_neg k3, if_neg k4, if_neg k5, if_neg (by simp [Tm.isTwo, k6, k7, k8, k9, k10]), if_neg k11, if_neg k12, if_neg k13]
 have e1 : ((s[a].toNat : Int) == 110) = false := hh 110 k1
 have e2 : ((s[a].toNat : Int) == 116) = false := hh 116 k2
 have e3 : ((s[a].toNat : Int) == 84) = false := hh 84 k3
 have e4 : ((s[a].toNat : Int) == 80) = false := hh 80 k4
 have e5 : ((s[a].toNat : Int) == 72) = false := hh 72 k5
 have e6 : ((s[a].toNat : Int) == 83) = false := hh 83 k6
 have e7 : ((s[a].toNat : Int) == 66) = false := hh 66 k7
 have e8 : ((s[a].toNat : Int) == 68) = false := hh 68 k8
 have e9 : ((s[a].toNat : Int) == 86) = false := hh 86 k9
 have e10 : ((s[a].toNat : Int) == 75) = false := hh 75 k10
 have e11 : ((s[a].toNat : Int) == 88) = false := hh 88 k11
 have e12 : ((s[a].toNat : Int) == 87) = false := hh 87 k12
 have e13 : ((s[a].toNat : Int) == 76) = false := hh 76 k13
 clear h hh k1 k2 k3 k4 k5 k6 k7 k8 k9 k10 k11 k12 k13
 go_enter Tryz.func103, Tryz.ntmps103
 go_wp2_with fail
 go_quiet (fail)
 go_wp2_with fail
 go_quiet (fail)
 go_wp2_with fail
 refine (none_any _).mono ?_
 rintro e w1 ⟨rfl, rfl⟩
 go_wp2_with fail
 go_ret
 refine ⟨HN.out, rfl, ?_⟩
 refine (RS.setLv (lv' := lv) (RS.setLv (lv' := lv + 1) (RS.setAt (a' := a + 1) (by first | exact (HR.out.drewN _) | exact ((HR.out.drewN _).drewN _)) (by omega) (by omega) _ (by simp)) (by omega) _ (by simp)) (by omega) _ (by simp)).bad
theorem term_of_kid {n : Nat} (hK : KidC n) : TermG n := by
 intro w0 B b s lv kp a nn tx ks w h hl hB
 by_cases ha : a < s.size
 · by_cases c1 : s[a] = 110
   · exact term_110 h hl hB ha c1
   · by_cases c2 : s[a] = 116
     · exact term_116 h hl hB ha c2
     · by_cases c3 : s[a] = 84
       · exact term_84 hK h hl hB ha c3
       · by_cases c4 : s[a] = 80
         · exact term_80 hK h hl hB ha c4
         · by_cases c5 : s[a] = 72
           · exact term_72 hK h hl hB ha c5
           · by_cases c6 : s[a] = 83
             · exact term_83 hK h hl hB ha c6
             · by_cases c7 : s[a] = 66
               · exact term_66 hK h hl hB ha c7
               · by_cases c8 : s[a] = 68
                 · exact term_68 hK h hl hB ha c8
                 · by_cases c9 : s[a] = 86
                   · exact term_86 hK h hl hB ha c9
                   · by_cases c10 : s[a] = 75
                     · exact term_75 hK h hl hB ha c10
                     · by_cases c11 : s[a] = 88
                       · exact term_88 hK h hl hB ha c11
                       · by_cases c12 : s[a] = 87
                         · exact term_87 hK h hl hB ha c12
                         · by_cases c13 : s[a] = 76
                           · exact term_76 hK h hl hB ha c13
                           · refine (term_none (n := n) h (by omega) ha ⟨c1, c2, c3, c4, c5, c6, c7, c8, c9, c10, c11, c12, c13⟩).mono ?_
                             rintro e w' ⟨h1, h2, h3⟩
                             exact ends_none h1 ⟨h2, h3⟩
 · refine (term_end (n := n + 1) h (by have := h.le; omega)).mono ?_
   rintro e w' ⟨h1, h2, h3⟩
   exact ends_none h1 ⟨h2, h3⟩
theorem termC_of {n : Nat} (hG : TermG n) : TermC (n + 1) := by
 intro w0 B b s lv kp a nn tx ks w h hl hk
 have hw : wt kp (lv + 1) = false := by
   cases kp
   · rfl
   · have := hk rfl
     simp [wt]
     omega
 refine (hG h hl (fun e => by rw [hw] at e; cases e)).mono ?_
 intro e w' hE
 rw [hw] at hE
 simpa [upd] using hE
theorem termC_zero : TermC 0 := by
 intro w0 B b s lv kp a nn tx ks w h hl hk
 by_cases ha : a < s.size
 · refine (term_deep h ha (by omega)).mono ?_
   rintro e w' ⟨h1, h2⟩
   exact ends_none (by rfl) ⟨h1, h2⟩
 · refine (term_end (n := 0) h (by have := h.le; omega)).mono ?_
   rintro e w' ⟨h1, h2, h3⟩
   exact ends_none h1 ⟨h2, h3⟩
theorem termC_all : ∀ n, n ≤ 64 → TermC n
 | 0, _ => termC_zero
 | n + 1, h => termC_of (term_of_kid (kid_any (termC_all n (by omega)) (by omega)))
theorem termG_all (n : Nat) (h : n < 64) : TermG n := term_of_kid (kid_any (termC_all n (by omega)) (by omega))
end Go.Proofs.YtkifchjpgdmcoaaGreatDoor
