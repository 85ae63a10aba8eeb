/-
  REGIONS OF ArrayArgs AS DECLARATIONS; its tail.
-/
import Derived.Test.YtapbphkhbhcdkaaArgM
import Derived.Deep.CutRange
import Derived.Deep.CutBlock
import Derived.Deep.DeepCutAuto
namespace Go.Proofs.Ytapbphkhbhcdkaa
open Go.RowKit Go.Maps
set_option linter.unusedVariables false
set_option maxRecDepth 100000

/-- The region of that number. -/
def findRegion (n : Nat) : Code → Option Code
  | .region i ops d => if i = n then some (.region i ops d) else none
  | .seq a b => match findRegion n a with
    | some c => some c
    | none => findRegion n b
  | .block _ c => findRegion n c
  | .scope c => findRegion n c
  | .loop c => findRegion n c
  | .cond _ a b => match findRegion n a with
    | some c => some c
    | none => findRegion n b
  | _ => none
noncomputable def reg14 : Code := (Try.f7.body.bind (findRegion 14)).getD .skip

set_option maxRecDepth 1000000 in
set_option maxHeartbeats 3200000 in
theorem r14_off {B : Nat} {w0 w : World} {R q cap : Nat} {P : Pl} {O : Nat → Prop} {s0 s : AS} {U : Int} {X KC c : Nat} {A : Option Addr} {L : List Sl} (t k mo : Int) (hR : Ri B w0 R q cap P s0 U w O s) (hU : U ≤ 100) (hC : Cz w A KC L O) (hK : KC ≤ 100) (hI : ((KC : Int) = (s0.M : Int) - 1 ∧ Fits L s0.b) ↔ decide (mo = 0) = true) (hX : w.cell? ⟨X, 0, none⟩ = some (.int .i64 (s0.M : Int))) (hM : 3 ≤ (s0.M : Int) ∧ (s0.M : Int) ≤ 5)
    (hbt : decide (0 ≤ t ∧ t < s0.N) = false)
    (c0 c1 c4 c6 c7 c8 c9 c10 c11 c12 c13 c14 c17 c19 c22 c23 c24 c25 c26 c27 c28 c29 c30 c31 c32 c33 c34 c35 c36 c37 c38 c39 c40 c41 c42 c43 c44 c45 c46 c47 c48 c49 c50 c51 c52 c53 c54 c55 c56 c57 c58 c59 c60 c61 c62 c63 c64 c65 c66 c67 c68 c69 c70 c71 c72 c73 c74 c75 c76 c77 c78 c79 c80 c81 c82 c83 c84 c85 c86 c87 c88 c89 c90 c91 c92 c93 c94 c95 c96 c97 c98 c99 c100 c101 c102 c103 c104 c105 c106 c107 c108 c109 c110 c111 c112 c113 c114 c115 c116 c117 c118 c119 c120 c121 c122 c123 c124 c125 c126 c127 c128 c129 c130 c131 c132 c133 c134 c135 c136 c137 c138 c139 c140 c141 c142 c143 c144 c145 c146 c147 c148 c149 c150 c151 c152 c153 c154 c155 c156 c157 c158 c159 c160 c161 c162 c163 c164 c165 c166 c167 c168 c169 c170 c171 c172 c173 c174 c175 c176 c177 c178 c179 c180 c181 c182 c183 c184 c185 c186 c187 c188 c189 c190 c191 c192 c193 c194 c195 c196 c197 c198 c199 c200 c201 c202 c203 c204 c205 c206 c207 c208 c209 c210 c211 c212 c213 c214 c215 c216 c217 c218 c219 c220 c221 c222 c223 c224 c225 c226 c227 c228 c229 c230 c231 c232 c233 c234 c235 c236 c237 c238 c239 c240 c241 c242 c243 c244 c245 c246 c247 c248 c249 c250 c251 c252 c253 : Value) (Q : Exit → Act → World → Prop) (hQ : ∀ w' O' s' (d80 d81 d82 d83 d84 d85 d86 d87 d88 d89 d90 d91 d92 d93 d94 d95 d96 d97 d98 d99 d100 d101 d102 d103 d104 d105 d106 d107 d108 d109 d110 d111 d112 d113 d114 d115 d116 d117 d118 d119 d120 d121 d122 : Value), Ri B w0 R q cap P s0 (U + 20 + 20) w' O' s' → Q .normal ⟨#[c0, c1, .int .i64 t, .int .i64 k, c4, .int .i8 mo, c6, c7, c8, c9, c10, c11, c12, c13, c14, .pointer (some ⟨X, 0, none⟩), ptr R, c17, .slice A KC c, c19, .int .i64 1, .bool false, c22, c23, c24, c25, c26, c27, c28, c29, c30, c31, c32, c33, c34, c35, c36, c37, c38, c39, c40, c41, c42, c43, c44, c45, c46, c47, c48, c49, c50, c51, c52, c53, c54, c55, c56, c57, c58, c59, c60, c61, c62, c63, c64, c65, c66, c67, c68, c69, c70, c71, c72, c73, c74, c75, c76, c77, c78, c79, d80, d81, d82, d83, d84, d85, d86, d87, d88, d89, d90, d91, d92, d93, d94, d95, d96, d97, d98, d99, d100, d101, d102, d103, d104, d105, d106, d107, d108, d109, d110, d111, d112, d113, d114, d115, d116, d117, d118, d119, d120, d121, d122, .bool false, c124, c125, c126, c127, c128, c129, c130, c131, c132, c133, c134, c135, c136, c137, c138, c139, c140, c141, c142, c143, c144, c145, c146, c147, c148, c149, c150, c151, c152, c153, c154, c155, c156, c157, c158, c159, c160, c161, c162, c163, c164, c165, c166, c167, c168, c169, c170, c171, c172, c173, c174, c175, c176, c177, c178, c179, c180, c181, c182, c183, c184, c185, c186, c187, c188, c189, c190, c191, c192, c193, c194, c195, c196, c197, c198, c199, c200, c201, c202, c203, c204, c205, c206, c207, c208, c209, c210, c211, c212, c213, c214, c215, c216, c217, c218, c219, c220, c221, c222, c223, c224, c225, c226, c227, c228, c229, c230, c231, c232, c233, c234, c235, c236, c237, c238, c239, c240, c241, c242, c243, c244, c245, c246, c247, c248, c249, c250, c251, c252, c253], []⟩ w') : Code.wp Try.prog reg14 Q ⟨#[c0, c1, .int .i64 t, .int .i64 k, c4, .int .i8 mo, c6, c7, c8, c9, c10, c11, c12, c13, c14, .pointer (some ⟨X, 0, none⟩), ptr R, c17, .slice A KC c, c19, .int .i64 1, .bool false, c22, c23, c24, c25, c26, c27, c28, c29, c30, c31, c32, c33, c34, c35, c36, c37, c38, c39, c40, c41, c42, c43, c44, c45, c46, c47, c48, c49, c50, c51, c52, c53, c54, c55, c56, c57, c58, c59, c60, c61, c62, c63, c64, c65, c66, c67, c68, c69, c70, c71, c72, c73, c74, c75, c76, c77, c78, c79, c80, c81, c82, c83, c84, c85, c86, c87, c88, c89, c90, c91, c92, c93, c94, c95, c96, c97, c98, c99, c100, c101, c102, c103, c104, c105, c106, c107, c108, c109, c110, c111, c112, c113, c114, c115, c116, c117, c118, c119, c120, c121, c122, c123, c124, c125, c126, c127, c128, c129, c130, c131, c132, c133, c134, c135, c136, c137, c138, c139, c140, c141, c142, c143, c144, c145, c146, c147, c148, c149, c150, c151, c152, c153, c154, c155, c156, c157, c158, c159, c160, c161, c162, c163, c164, c165, c166, c167, c168, c169, c170, c171, c172, c173, c174, c175, c176, c177, c178, c179, c180, c181, c182, c183, c184, c185, c186, c187, c188, c189, c190, c191, c192, c193, c194, c195, c196, c197, c198, c199, c200, c201, c202, c203, c204, c205, c206, c207, c208, c209, c210, c211, c212, c213, c214, c215, c216, c217, c218, c219, c220, c221, c222, c223, c224, c225, c226, c227, c228, c229, c230, c231, c232, c233, c234, c235, c236, c237, c238, c239, c240, c241, c242, c243, c244, c245, c246, c247, c248, c249, c250, c251, c252, c253], []⟩ w := by
  have RI := Lib.hid hR
  have CZ := Lib.hid hC
  have II := Lib.hid hI
  have HQ := Lib.hid hQ
  have r9 : w.cell? ⟨R, 9, none⟩ = some (ptr P.a) := hR.sys.rg.rig.cell 9
  clear hR hC hI hQ
  conv => arg 2; whnf
  have BT := Lib.hid hbt
  clear hbt
  go_wp2_with fail
  refine (put_ri t A KC c L (decide (mo = 0)) hK CZ.out II.out RI.out (by omega)).mono ?_
  rintro e w8 ⟨rfl, O8, s8, hR, hO, hB⟩
  rw [BT.out, show ∀ y, no (false && y) = no (false && true) from fun _ => rfl]
  have Y8 := Lib.hid hR
  have r9 : w8.cell? ⟨R, 9, none⟩ = some (ptr P.a) := hR.sys.rg.rig.cell 9
  clear hR hO hB hX
  rw [show no (false && true) = 1 from rfl]
  go_wp2_with fail
  refine (mend_ri t Y8.out (by omega)).mono ?_
  rintro e w9 ⟨rfl, O9, s9, hR, hO, hB⟩
  rw [BT.out, show no10 false = 1 from rfl]
  have Y9 := Lib.hid hR
  clear hR hO hB r9
  go_wp2
  exact HQ.out w9 O9 s9 _ _ _ _ _ _ _ _ _ _ _ _ _ _ _ _ _ _ _ _ _ _ _ _ _ _ _ _ _ _ _ _ _ _ _ _ _ _ _ _ _ _ _ Y9.out

set_option maxRecDepth 1000000 in
set_option maxHeartbeats 3200000 in
theorem r14_neg_false {B : Nat} {w0 w : World} {R q cap : Nat} {P : Pl} {O : Nat → Prop} {s0 s : AS} {U : Int} {X KC c : Nat} {A : Option Addr} {L : List Sl} (t k mo : Int) (hR : Ri B w0 R q cap P s0 U w O s) (hU : U ≤ 100) (hC : Cz w A KC L O) (hK : KC ≤ 100) (hI : ((KC : Int) = (s0.M : Int) - 1 ∧ Fits L s0.b) ↔ decide (mo = 0) = true) (hX : w.cell? ⟨X, 0, none⟩ = some (.int .i64 (s0.M : Int))) (hM : 3 ≤ (s0.M : Int) ∧ (s0.M : Int) ≤ 5)
    (hbt : decide (0 ≤ t ∧ t < s0.N) = true) (hz : decide (mo = 0) = false) (k0 : k < 0)
    (c0 c1 c4 c6 c7 c8 c9 c10 c11 c12 c13 c14 c17 c19 c22 c23 c24 c25 c26 c27 c28 c29 c30 c31 c32 c33 c34 c35 c36 c37 c38 c39 c40 c41 c42 c43 c44 c45 c46 c47 c48 c49 c50 c51 c52 c53 c54 c55 c56 c57 c58 c59 c60 c61 c62 c63 c64 c65 c66 c67 c68 c69 c70 c71 c72 c73 c74 c75 c76 c77 c78 c79 c80 c81 c82 c83 c84 c85 c86 c87 c88 c89 c90 c91 c92 c93 c94 c95 c96 c97 c98 c99 c100 c101 c102 c103 c104 c105 c106 c107 c108 c109 c110 c111 c112 c113 c114 c115 c116 c117 c118 c119 c120 c121 c122 c123 c124 c125 c126 c127 c128 c129 c130 c131 c132 c133 c134 c135 c136 c137 c138 c139 c140 c141 c142 c143 c144 c145 c146 c147 c148 c149 c150 c151 c152 c153 c154 c155 c156 c157 c158 c159 c160 c161 c162 c163 c164 c165 c166 c167 c168 c169 c170 c171 c172 c173 c174 c175 c176 c177 c178 c179 c180 c181 c182 c183 c184 c185 c186 c187 c188 c189 c190 c191 c192 c193 c194 c195 c196 c197 c198 c199 c200 c201 c202 c203 c204 c205 c206 c207 c208 c209 c210 c211 c212 c213 c214 c215 c216 c217 c218 c219 c220 c221 c222 c223 c224 c225 c226 c227 c228 c229 c230 c231 c232 c233 c234 c235 c236 c237 c238 c239 c240 c241 c242 c243 c244 c245 c246 c247 c248 c249 c250 c251 c252 c253 : Value) (Q : Exit → Act → World → Prop) (hQ : ∀ w' O' s' (d80 d81 d82 d83 d84 d85 d86 d87 d88 d89 d90 d91 d92 d93 d94 d95 d96 d97 d98 d99 d100 d101 d102 d103 d104 d105 d106 d107 d108 d109 d110 d111 d112 d113 d114 d115 d116 d117 d118 d119 d120 d121 d122 : Value), Ri B w0 R q cap P s0 (U + 20 + 20) w' O' s' → Q .normal ⟨#[c0, c1, .int .i64 t, .int .i64 k, c4, .int .i8 mo, c6, c7, c8, c9, c10, c11, c12, c13, c14, .pointer (some ⟨X, 0, none⟩), ptr R, c17, .slice A KC c, c19, .int .i64 1, .bool true, c22, c23, c24, c25, c26, c27, c28, c29, c30, c31, c32, c33, c34, c35, c36, c37, c38, c39, c40, c41, c42, c43, c44, c45, c46, c47, c48, c49, c50, c51, c52, c53, c54, c55, c56, c57, c58, c59, c60, c61, c62, c63, c64, c65, c66, c67, c68, c69, c70, c71, c72, c73, c74, c75, c76, c77, c78, c79, d80, d81, d82, d83, d84, d85, d86, d87, d88, d89, d90, d91, d92, d93, d94, d95, d96, d97, d98, d99, d100, d101, d102, d103, d104, d105, d106, d107, d108, d109, d110, d111, d112, d113, d114, d115, d116, d117, d118, d119, d120, d121, d122, .bool false, c124, c125, c126, c127, c128, c129, c130, c131, c132, c133, c134, c135, c136, c137, c138, c139, c140, c141, c142, c143, c144, c145, c146, c147, c148, c149, c150, c151, c152, c153, c154, c155, c156, c157, c158, c159, c160, c161, c162, c163, c164, c165, c166, c167, c168, c169, c170, c171, c172, c173, c174, c175, c176, c177, c178, c179, c180, c181, c182, c183, c184, c185, c186, c187, c188, c189, c190, c191, c192, c193, c194, c195, c196, c197, c198, c199, c200, c201, c202, c203, c204, c205, c206, c207, c208, c209, c210, c211, c212, c213, c214, c215, c216, c217, c218, c219, c220, c221, c222, c223, c224, c225, c226, c227, c228, c229, c230, c231, c232, c233, c234, c235, c236, c237, c238, c239, c240, c241, c242, c243, c244, c245, c246, c247, c248, c249, c250, c251, c252, c253], []⟩ w') : Code.wp Try.prog reg14 Q ⟨#[c0, c1, .int .i64 t, .int .i64 k, c4, .int .i8 mo, c6, c7, c8, c9, c10, c11, c12, c13, c14, .pointer (some ⟨X, 0, none⟩), ptr R, c17, .slice A KC c, c19, .int .i64 1, .bool true, c22, c23, c24, c25, c26, c27, c28, c29, c30, c31, c32, c33, c34, c35, c36, c37, c38, c39, c40, c41, c42, c43, c44, c45, c46, c47, c48, c49, c50, c51, c52, c53, c54, c55, c56, c57, c58, c59, c60, c61, c62, c63, c64, c65, c66, c67, c68, c69, c70, c71, c72, c73, c74, c75, c76, c77, c78, c79, c80, c81, c82, c83, c84, c85, c86, c87, c88, c89, c90, c91, c92, c93, c94, c95, c96, c97, c98, c99, c100, c101, c102, c103, c104, c105, c106, c107, c108, c109, c110, c111, c112, c113, c114, c115, c116, c117, c118, c119, c120, c121, c122, c123, c124, c125, c126, c127, c128, c129, c130, c131, c132, c133, c134, c135, c136, c137, c138, c139, c140, c141, c142, c143, c144, c145, c146, c147, c148, c149, c150, c151, c152, c153, c154, c155, c156, c157, c158, c159, c160, c161, c162, c163, c164, c165, c166, c167, c168, c169, c170, c171, c172, c173, c174, c175, c176, c177, c178, c179, c180, c181, c182, c183, c184, c185, c186, c187, c188, c189, c190, c191, c192, c193, c194, c195, c196, c197, c198, c199, c200, c201, c202, c203, c204, c205, c206, c207, c208, c209, c210, c211, c212, c213, c214, c215, c216, c217, c218, c219, c220, c221, c222, c223, c224, c225, c226, c227, c228, c229, c230, c231, c232, c233, c234, c235, c236, c237, c238, c239, c240, c241, c242, c243, c244, c245, c246, c247, c248, c249, c250, c251, c252, c253], []⟩ w := by
  have RI := Lib.hid hR
  have CZ := Lib.hid hC
  have II := Lib.hid hI
  have HQ := Lib.hid hQ
  have r9 : w.cell? ⟨R, 9, none⟩ = some (ptr P.a) := hR.sys.rg.rig.cell 9
  clear hR hC hI hQ
  conv => arg 2; whnf
  have BT := Lib.hid hbt
  have DZ := Lib.hid hz
  have hz2 : (mo != 0) = true := by simp at hz ⊢; exact hz
  clear hz hbt
  go_wp2_with fail
  refine (put_ri t A KC c L (decide (mo = 0)) hK CZ.out II.out RI.out (by omega)).mono ?_
  rintro e w8 ⟨rfl, O8, s8, hR, hO, hB⟩
  rw [BT.out, DZ.out]
  have Y8 := Lib.hid hR
  have r9 : w8.cell? ⟨R, 9, none⟩ = some (ptr P.a) := hR.sys.rg.rig.cell 9
  clear hR hO hB hX
  rw [show no (true && false) = 1 from rfl]
  go_wp2_with fail
  refine (mend_ri t Y8.out (by omega)).mono ?_
  rintro e w9 ⟨rfl, O9, s9, hR, hO, hB⟩
  rw [BT.out, show no10 true = 10 from rfl]
  have Y9 := Lib.hid hR
  clear hR hO hB r9
  go_wp2
  exact HQ.out w9 O9 s9 _ _ _ _ _ _ _ _ _ _ _ _ _ _ _ _ _ _ _ _ _ _ _ _ _ _ _ _ _ _ _ _ _ _ _ _ _ _ _ _ _ _ _ Y9.out

set_option maxRecDepth 1000000 in
set_option maxHeartbeats 3200000 in
theorem r14_big_false {B : Nat} {w0 w : World} {R q cap : Nat} {P : Pl} {O : Nat → Prop} {s0 s : AS} {U : Int} {X KC c : Nat} {A : Option Addr} {L : List Sl} (t k mo : Int) (hR : Ri B w0 R q cap P s0 U w O s) (hU : U ≤ 100) (hC : Cz w A KC L O) (hK : KC ≤ 100) (hI : ((KC : Int) = (s0.M : Int) - 1 ∧ Fits L s0.b) ↔ decide (mo = 0) = true) (hX : w.cell? ⟨X, 0, none⟩ = some (.int .i64 (s0.M : Int))) (hM : 3 ≤ (s0.M : Int) ∧ (s0.M : Int) ≤ 5)
    (hbt : decide (0 ≤ t ∧ t < s0.N) = true) (hz : decide (mo = 0) = false) (k0 : ¬ k < 0) (k1 : k > (s0.M : Int) - 2)
    (c0 c1 c4 c6 c7 c8 c9 c10 c11 c12 c13 c14 c17 c19 c22 c23 c24 c25 c26 c27 c28 c29 c30 c31 c32 c33 c34 c35 c36 c37 c38 c39 c40 c41 c42 c43 c44 c45 c46 c47 c48 c49 c50 c51 c52 c53 c54 c55 c56 c57 c58 c59 c60 c61 c62 c63 c64 c65 c66 c67 c68 c69 c70 c71 c72 c73 c74 c75 c76 c77 c78 c79 c80 c81 c82 c83 c84 c85 c86 c87 c88 c89 c90 c91 c92 c93 c94 c95 c96 c97 c98 c99 c100 c101 c102 c103 c104 c105 c106 c107 c108 c109 c110 c111 c112 c113 c114 c115 c116 c117 c118 c119 c120 c121 c122 c123 c124 c125 c126 c127 c128 c129 c130 c131 c132 c133 c134 c135 c136 c137 c138 c139 c140 c141 c142 c143 c144 c145 c146 c147 c148 c149 c150 c151 c152 c153 c154 c155 c156 c157 c158 c159 c160 c161 c162 c163 c164 c165 c166 c167 c168 c169 c170 c171 c172 c173 c174 c175 c176 c177 c178 c179 c180 c181 c182 c183 c184 c185 c186 c187 c188 c189 c190 c191 c192 c193 c194 c195 c196 c197 c198 c199 c200 c201 c202 c203 c204 c205 c206 c207 c208 c209 c210 c211 c212 c213 c214 c215 c216 c217 c218 c219 c220 c221 c222 c223 c224 c225 c226 c227 c228 c229 c230 c231 c232 c233 c234 c235 c236 c237 c238 c239 c240 c241 c242 c243 c244 c245 c246 c247 c248 c249 c250 c251 c252 c253 : Value) (Q : Exit → Act → World → Prop) (hQ : ∀ w' O' s' (d80 d81 d82 d83 d84 d85 d86 d87 d88 d89 d90 d91 d92 d93 d94 d95 d96 d97 d98 d99 d100 d101 d102 d103 d104 d105 d106 d107 d108 d109 d110 d111 d112 d113 d114 d115 d116 d117 d118 d119 d120 d121 d122 : Value), Ri B w0 R q cap P s0 (U + 20 + 20) w' O' s' → Q .normal ⟨#[c0, c1, .int .i64 t, .int .i64 k, c4, .int .i8 mo, c6, c7, c8, c9, c10, c11, c12, c13, c14, .pointer (some ⟨X, 0, none⟩), ptr R, c17, .slice A KC c, c19, .int .i64 1, .bool true, c22, c23, c24, c25, c26, c27, c28, c29, c30, c31, c32, c33, c34, c35, c36, c37, c38, c39, c40, c41, c42, c43, c44, c45, c46, c47, c48, c49, c50, c51, c52, c53, c54, c55, c56, c57, c58, c59, c60, c61, c62, c63, c64, c65, c66, c67, c68, c69, c70, c71, c72, c73, c74, c75, c76, c77, c78, c79, d80, d81, d82, d83, d84, d85, d86, d87, d88, d89, d90, d91, d92, d93, d94, d95, d96, d97, d98, d99, d100, d101, d102, d103, d104, d105, d106, d107, d108, d109, d110, d111, d112, d113, d114, d115, d116, d117, d118, d119, d120, d121, d122, .bool false, c124, c125, c126, c127, c128, c129, c130, c131, c132, c133, c134, c135, c136, c137, c138, c139, c140, c141, c142, c143, c144, c145, c146, c147, c148, c149, c150, c151, c152, c153, c154, c155, c156, c157, c158, c159, c160, c161, c162, c163, c164, c165, c166, c167, c168, c169, c170, c171, c172, c173, c174, c175, c176, c177, c178, c179, c180, c181, c182, c183, c184, c185, c186, c187, c188, c189, c190, c191, c192, c193, c194, c195, c196, c197, c198, c199, c200, c201, c202, c203, c204, c205, c206, c207, c208, c209, c210, c211, c212, c213, c214, c215, c216, c217, c218, c219, c220, c221, c222, c223, c224, c225, c226, c227, c228, c229, c230, c231, c232, c233, c234, c235, c236, c237, c238, c239, c240, c241, c242, c243, c244, c245, c246, c247, c248, c249, c250, c251, c252, c253], []⟩ w') : Code.wp Try.prog reg14 Q ⟨#[c0, c1, .int .i64 t, .int .i64 k, c4, .int .i8 mo, c6, c7, c8, c9, c10, c11, c12, c13, c14, .pointer (some ⟨X, 0, none⟩), ptr R, c17, .slice A KC c, c19, .int .i64 1, .bool true, c22, c23, c24, c25, c26, c27, c28, c29, c30, c31, c32, c33, c34, c35, c36, c37, c38, c39, c40, c41, c42, c43, c44, c45, c46, c47, c48, c49, c50, c51, c52, c53, c54, c55, c56, c57, c58, c59, c60, c61, c62, c63, c64, c65, c66, c67, c68, c69, c70, c71, c72, c73, c74, c75, c76, c77, c78, c79, c80, c81, c82, c83, c84, c85, c86, c87, c88, c89, c90, c91, c92, c93, c94, c95, c96, c97, c98, c99, c100, c101, c102, c103, c104, c105, c106, c107, c108, c109, c110, c111, c112, c113, c114, c115, c116, c117, c118, c119, c120, c121, c122, c123, c124, c125, c126, c127, c128, c129, c130, c131, c132, c133, c134, c135, c136, c137, c138, c139, c140, c141, c142, c143, c144, c145, c146, c147, c148, c149, c150, c151, c152, c153, c154, c155, c156, c157, c158, c159, c160, c161, c162, c163, c164, c165, c166, c167, c168, c169, c170, c171, c172, c173, c174, c175, c176, c177, c178, c179, c180, c181, c182, c183, c184, c185, c186, c187, c188, c189, c190, c191, c192, c193, c194, c195, c196, c197, c198, c199, c200, c201, c202, c203, c204, c205, c206, c207, c208, c209, c210, c211, c212, c213, c214, c215, c216, c217, c218, c219, c220, c221, c222, c223, c224, c225, c226, c227, c228, c229, c230, c231, c232, c233, c234, c235, c236, c237, c238, c239, c240, c241, c242, c243, c244, c245, c246, c247, c248, c249, c250, c251, c252, c253], []⟩ w := by
  have RI := Lib.hid hR
  have CZ := Lib.hid hC
  have II := Lib.hid hI
  have HQ := Lib.hid hQ
  have r9 : w.cell? ⟨R, 9, none⟩ = some (ptr P.a) := hR.sys.rg.rig.cell 9
  clear hR hC hI hQ
  conv => arg 2; whnf
  have BT := Lib.hid hbt
  have DZ := Lib.hid hz
  have hz2 : (mo != 0) = true := by simp at hz ⊢; exact hz
  clear hz hbt
  go_wp2_with fail
  refine (put_ri t A KC c L (decide (mo = 0)) hK CZ.out II.out RI.out (by omega)).mono ?_
  rintro e w8 ⟨rfl, O8, s8, hR, hO, hB⟩
  rw [BT.out, DZ.out]
  have Y8 := Lib.hid hR
  have r9 : w8.cell? ⟨R, 9, none⟩ = some (ptr P.a) := hR.sys.rg.rig.cell 9
  clear hR hO hB hX
  rw [show no (true && false) = 1 from rfl]
  go_wp2_with fail
  refine (mend_ri t Y8.out (by omega)).mono ?_
  rintro e w9 ⟨rfl, O9, s9, hR, hO, hB⟩
  rw [BT.out, show no10 true = 10 from rfl]
  have Y9 := Lib.hid hR
  clear hR hO hB r9
  go_wp2
  exact HQ.out w9 O9 s9 _ _ _ _ _ _ _ _ _ _ _ _ _ _ _ _ _ _ _ _ _ _ _ _ _ _ _ _ _ _ _ _ _ _ _ _ _ _ _ _ _ _ _ Y9.out

set_option maxRecDepth 1000000 in
set_option maxHeartbeats 3200000 in
theorem r14_ok_false {B : Nat} {w0 w : World} {R q cap : Nat} {P : Pl} {O : Nat → Prop} {s0 s : AS} {U : Int} {X KC c : Nat} {A : Option Addr} {L : List Sl} (t k mo : Int) (hR : Ri B w0 R q cap P s0 U w O s) (hU : U ≤ 100) (hC : Cz w A KC L O) (hK : KC ≤ 100) (hI : ((KC : Int) = (s0.M : Int) - 1 ∧ Fits L s0.b) ↔ decide (mo = 0) = true) (hX : w.cell? ⟨X, 0, none⟩ = some (.int .i64 (s0.M : Int))) (hM : 3 ≤ (s0.M : Int) ∧ (s0.M : Int) ≤ 5)
    (hbt : decide (0 ≤ t ∧ t < s0.N) = true) (hz : decide (mo = 0) = false) (k0 : ¬ k < 0) (k1 : ¬ k > (s0.M : Int) - 2)
    (c0 c1 c4 c6 c7 c8 c9 c10 c11 c12 c13 c14 c17 c19 c22 c23 c24 c25 c26 c27 c28 c29 c30 c31 c32 c33 c34 c35 c36 c37 c38 c39 c40 c41 c42 c43 c44 c45 c46 c47 c48 c49 c50 c51 c52 c53 c54 c55 c56 c57 c58 c59 c60 c61 c62 c63 c64 c65 c66 c67 c68 c69 c70 c71 c72 c73 c74 c75 c76 c77 c78 c79 c80 c81 c82 c83 c84 c85 c86 c87 c88 c89 c90 c91 c92 c93 c94 c95 c96 c97 c98 c99 c100 c101 c102 c103 c104 c105 c106 c107 c108 c109 c110 c111 c112 c113 c114 c115 c116 c117 c118 c119 c120 c121 c122 c123 c124 c125 c126 c127 c128 c129 c130 c131 c132 c133 c134 c135 c136 c137 c138 c139 c140 c141 c142 c143 c144 c145 c146 c147 c148 c149 c150 c151 c152 c153 c154 c155 c156 c157 c158 c159 c160 c161 c162 c163 c164 c165 c166 c167 c168 c169 c170 c171 c172 c173 c174 c175 c176 c177 c178 c179 c180 c181 c182 c183 c184 c185 c186 c187 c188 c189 c190 c191 c192 c193 c194 c195 c196 c197 c198 c199 c200 c201 c202 c203 c204 c205 c206 c207 c208 c209 c210 c211 c212 c213 c214 c215 c216 c217 c218 c219 c220 c221 c222 c223 c224 c225 c226 c227 c228 c229 c230 c231 c232 c233 c234 c235 c236 c237 c238 c239 c240 c241 c242 c243 c244 c245 c246 c247 c248 c249 c250 c251 c252 c253 : Value) (Q : Exit → Act → World → Prop) (hQ : ∀ w' O' s' (d80 d81 d82 d83 d84 d85 d86 d87 d88 d89 d90 d91 d92 d93 d94 d95 d96 d97 d98 d99 d100 d101 d102 d103 d104 d105 d106 d107 d108 d109 d110 d111 d112 d113 d114 d115 d116 d117 d118 d119 d120 d121 d122 : Value), Ri B w0 R q cap P s0 (U + 20 + 20) w' O' s' → Q .normal ⟨#[c0, c1, .int .i64 t, .int .i64 k, c4, .int .i8 mo, c6, c7, c8, c9, c10, c11, c12, c13, c14, .pointer (some ⟨X, 0, none⟩), ptr R, c17, .slice A KC c, c19, .int .i64 0, .bool true, c22, c23, c24, c25, c26, c27, c28, c29, c30, c31, c32, c33, c34, c35, c36, c37, c38, c39, c40, c41, c42, c43, c44, c45, c46, c47, c48, c49, c50, c51, c52, c53, c54, c55, c56, c57, c58, c59, c60, c61, c62, c63, c64, c65, c66, c67, c68, c69, c70, c71, c72, c73, c74, c75, c76, c77, c78, c79, d80, d81, d82, d83, d84, d85, d86, d87, d88, d89, d90, d91, d92, d93, d94, d95, d96, d97, d98, d99, d100, d101, d102, d103, d104, d105, d106, d107, d108, d109, d110, d111, d112, d113, d114, d115, d116, d117, d118, d119, d120, d121, d122, .bool false, c124, c125, c126, c127, c128, c129, c130, c131, c132, c133, c134, c135, c136, c137, c138, c139, c140, c141, c142, c143, c144, c145, c146, c147, c148, c149, c150, c151, c152, c153, c154, c155, c156, c157, c158, c159, c160, c161, c162, c163, c164, c165, c166, c167, c168, c169, c170, c171, c172, c173, c174, c175, c176, c177, c178, c179, c180, c181, c182, c183, c184, c185, c186, c187, c188, c189, c190, c191, c192, c193, c194, c195, c196, c197, c198, c199, c200, c201, c202, c203, c204, c205, c206, c207, c208, c209, c210, c211, c212, c213, c214, c215, c216, c217, c218, c219, c220, c221, c222, c223, c224, c225, c226, c227, c228, c229, c230, c231, c232, c233, c234, c235, c236, c237, c238, c239, c240, c241, c242, c243, c244, c245, c246, c247, c248, c249, c250, c251, c252, c253], []⟩ w') : Code.wp Try.prog reg14 Q ⟨#[c0, c1, .int .i64 t, .int .i64 k, c4, .int .i8 mo, c6, c7, c8, c9, c10, c11, c12, c13, c14, .pointer (some ⟨X, 0, none⟩), ptr R, c17, .slice A KC c, c19, .int .i64 0, .bool true, c22, c23, c24, c25, c26, c27, c28, c29, c30, c31, c32, c33, c34, c35, c36, c37, c38, c39, c40, c41, c42, c43, c44, c45, c46, c47, c48, c49, c50, c51, c52, c53, c54, c55, c56, c57, c58, c59, c60, c61, c62, c63, c64, c65, c66, c67, c68, c69, c70, c71, c72, c73, c74, c75, c76, c77, c78, c79, c80, c81, c82, c83, c84, c85, c86, c87, c88, c89, c90, c91, c92, c93, c94, c95, c96, c97, c98, c99, c100, c101, c102, c103, c104, c105, c106, c107, c108, c109, c110, c111, c112, c113, c114, c115, c116, c117, c118, c119, c120, c121, c122, c123, c124, c125, c126, c127, c128, c129, c130, c131, c132, c133, c134, c135, c136, c137, c138, c139, c140, c141, c142, c143, c144, c145, c146, c147, c148, c149, c150, c151, c152, c153, c154, c155, c156, c157, c158, c159, c160, c161, c162, c163, c164, c165, c166, c167, c168, c169, c170, c171, c172, c173, c174, c175, c176, c177, c178, c179, c180, c181, c182, c183, c184, c185, c186, c187, c188, c189, c190, c191, c192, c193, c194, c195, c196, c197, c198, c199, c200, c201, c202, c203, c204, c205, c206, c207, c208, c209, c210, c211, c212, c213, c214, c215, c216, c217, c218, c219, c220, c221, c222, c223, c224, c225, c226, c227, c228, c229, c230, c231, c232, c233, c234, c235, c236, c237, c238, c239, c240, c241, c242, c243, c244, c245, c246, c247, c248, c249, c250, c251, c252, c253], []⟩ w := by
  have RI := Lib.hid hR
  have CZ := Lib.hid hC
  have II := Lib.hid hI
  have HQ := Lib.hid hQ
  have r9 : w.cell? ⟨R, 9, none⟩ = some (ptr P.a) := hR.sys.rg.rig.cell 9
  clear hR hC hI hQ
  conv => arg 2; whnf
  have BT := Lib.hid hbt
  have DZ := Lib.hid hz
  have hz2 : (mo != 0) = true := by simp at hz ⊢; exact hz
  clear hz hbt
  go_wp2_with fail
  refine (put_ri t A KC c L (decide (mo = 0)) hK CZ.out II.out RI.out (by omega)).mono ?_
  rintro e w8 ⟨rfl, O8, s8, hR, hO, hB⟩
  rw [BT.out, DZ.out]
  have Y8 := Lib.hid hR
  have r9 : w8.cell? ⟨R, 9, none⟩ = some (ptr P.a) := hR.sys.rg.rig.cell 9
  clear hR hO hB hX
  rw [show no (true && false) = 1 from rfl]
  go_wp2_with fail
  refine (mend_ri t Y8.out (by omega)).mono ?_
  rintro e w9 ⟨rfl, O9, s9, hR, hO, hB⟩
  rw [BT.out, show no10 true = 10 from rfl]
  have Y9 := Lib.hid hR
  clear hR hO hB r9
  go_wp2
  exact HQ.out w9 O9 s9 _ _ _ _ _ _ _ _ _ _ _ _ _ _ _ _ _ _ _ _ _ _ _ _ _ _ _ _ _ _ _ _ _ _ _ _ _ _ _ _ _ _ _ Y9.out

set_option maxRecDepth 1000000 in
set_option maxHeartbeats 3200000 in
theorem r14_neg_true {B : Nat} {w0 w : World} {R q cap : Nat} {P : Pl} {O : Nat → Prop} {s0 s : AS} {U : Int} {X KC c : Nat} {A : Option Addr} {L : List Sl} (t k mo : Int) (hR : Ri B w0 R q cap P s0 U w O s) (hU : U ≤ 100) (hC : Cz w A KC L O) (hK : KC ≤ 100) (hI : ((KC : Int) = (s0.M : Int) - 1 ∧ Fits L s0.b) ↔ decide (mo = 0) = true) (hX : w.cell? ⟨X, 0, none⟩ = some (.int .i64 (s0.M : Int))) (hM : 3 ≤ (s0.M : Int) ∧ (s0.M : Int) ≤ 5)
    (hbt : decide (0 ≤ t ∧ t < s0.N) = true) (hz : decide (mo = 0) = true) (k0 : k < 0)
    (c0 c1 c4 c6 c7 c8 c9 c10 c11 c12 c13 c14 c17 c19 c22 c23 c24 c25 c26 c27 c28 c29 c30 c31 c32 c33 c34 c35 c36 c37 c38 c39 c40 c41 c42 c43 c44 c45 c46 c47 c48 c49 c50 c51 c52 c53 c54 c55 c56 c57 c58 c59 c60 c61 c62 c63 c64 c65 c66 c67 c68 c69 c70 c71 c72 c73 c74 c75 c76 c77 c78 c79 c80 c81 c82 c83 c84 c85 c86 c87 c88 c89 c90 c91 c92 c93 c94 c95 c96 c97 c98 c99 c100 c101 c102 c103 c104 c105 c106 c107 c108 c109 c110 c111 c112 c113 c114 c115 c116 c117 c118 c119 c120 c121 c122 c123 c124 c125 c126 c127 c128 c129 c130 c131 c132 c133 c134 c135 c136 c137 c138 c139 c140 c141 c142 c143 c144 c145 c146 c147 c148 c149 c150 c151 c152 c153 c154 c155 c156 c157 c158 c159 c160 c161 c162 c163 c164 c165 c166 c167 c168 c169 c170 c171 c172 c173 c174 c175 c176 c177 c178 c179 c180 c181 c182 c183 c184 c185 c186 c187 c188 c189 c190 c191 c192 c193 c194 c195 c196 c197 c198 c199 c200 c201 c202 c203 c204 c205 c206 c207 c208 c209 c210 c211 c212 c213 c214 c215 c216 c217 c218 c219 c220 c221 c222 c223 c224 c225 c226 c227 c228 c229 c230 c231 c232 c233 c234 c235 c236 c237 c238 c239 c240 c241 c242 c243 c244 c245 c246 c247 c248 c249 c250 c251 c252 c253 : Value) (Q : Exit → Act → World → Prop) (hQ : ∀ w' O' s' (d80 d81 d82 d83 d84 d85 d86 d87 d88 d89 d90 d91 d92 d93 d94 d95 d96 d97 d98 d99 d100 d101 d102 d103 d104 d105 d106 d107 d108 d109 d110 d111 d112 d113 d114 d115 d116 d117 d118 d119 d120 d121 d122 : Value), Ri B w0 R q cap P s0 (U + 20 + 20) w' O' s' → Q .normal ⟨#[c0, c1, .int .i64 t, .int .i64 k, c4, .int .i8 mo, c6, c7, c8, c9, c10, c11, c12, c13, c14, .pointer (some ⟨X, 0, none⟩), ptr R, c17, .slice A KC c, c19, .int .i64 1, .bool true, c22, c23, c24, c25, c26, c27, c28, c29, c30, c31, c32, c33, c34, c35, c36, c37, c38, c39, c40, c41, c42, c43, c44, c45, c46, c47, c48, c49, c50, c51, c52, c53, c54, c55, c56, c57, c58, c59, c60, c61, c62, c63, c64, c65, c66, c67, c68, c69, c70, c71, c72, c73, c74, c75, c76, c77, c78, c79, d80, d81, d82, d83, d84, d85, d86, d87, d88, d89, d90, d91, d92, d93, d94, d95, d96, d97, d98, d99, d100, d101, d102, d103, d104, d105, d106, d107, d108, d109, d110, d111, d112, d113, d114, d115, d116, d117, d118, d119, d120, d121, d122, .bool false, c124, c125, c126, c127, c128, c129, c130, c131, c132, c133, c134, c135, c136, c137, c138, c139, c140, c141, c142, c143, c144, c145, c146, c147, c148, c149, c150, c151, c152, c153, c154, c155, c156, c157, c158, c159, c160, c161, c162, c163, c164, c165, c166, c167, c168, c169, c170, c171, c172, c173, c174, c175, c176, c177, c178, c179, c180, c181, c182, c183, c184, c185, c186, c187, c188, c189, c190, c191, c192, c193, c194, c195, c196, c197, c198, c199, c200, c201, c202, c203, c204, c205, c206, c207, c208, c209, c210, c211, c212, c213, c214, c215, c216, c217, c218, c219, c220, c221, c222, c223, c224, c225, c226, c227, c228, c229, c230, c231, c232, c233, c234, c235, c236, c237, c238, c239, c240, c241, c242, c243, c244, c245, c246, c247, c248, c249, c250, c251, c252, c253], []⟩ w') : Code.wp Try.prog reg14 Q ⟨#[c0, c1, .int .i64 t, .int .i64 k, c4, .int .i8 mo, c6, c7, c8, c9, c10, c11, c12, c13, c14, .pointer (some ⟨X, 0, none⟩), ptr R, c17, .slice A KC c, c19, .int .i64 1, .bool true, c22, c23, c24, c25, c26, c27, c28, c29, c30, c31, c32, c33, c34, c35, c36, c37, c38, c39, c40, c41, c42, c43, c44, c45, c46, c47, c48, c49, c50, c51, c52, c53, c54, c55, c56, c57, c58, c59, c60, c61, c62, c63, c64, c65, c66, c67, c68, c69, c70, c71, c72, c73, c74, c75, c76, c77, c78, c79, c80, c81, c82, c83, c84, c85, c86, c87, c88, c89, c90, c91, c92, c93, c94, c95, c96, c97, c98, c99, c100, c101, c102, c103, c104, c105, c106, c107, c108, c109, c110, c111, c112, c113, c114, c115, c116, c117, c118, c119, c120, c121, c122, c123, c124, c125, c126, c127, c128, c129, c130, c131, c132, c133, c134, c135, c136, c137, c138, c139, c140, c141, c142, c143, c144, c145, c146, c147, c148, c149, c150, c151, c152, c153, c154, c155, c156, c157, c158, c159, c160, c161, c162, c163, c164, c165, c166, c167, c168, c169, c170, c171, c172, c173, c174, c175, c176, c177, c178, c179, c180, c181, c182, c183, c184, c185, c186, c187, c188, c189, c190, c191, c192, c193, c194, c195, c196, c197, c198, c199, c200, c201, c202, c203, c204, c205, c206, c207, c208, c209, c210, c211, c212, c213, c214, c215, c216, c217, c218, c219, c220, c221, c222, c223, c224, c225, c226, c227, c228, c229, c230, c231, c232, c233, c234, c235, c236, c237, c238, c239, c240, c241, c242, c243, c244, c245, c246, c247, c248, c249, c250, c251, c252, c253], []⟩ w := by
  have RI := Lib.hid hR
  have CZ := Lib.hid hC
  have II := Lib.hid hI
  have HQ := Lib.hid hQ
  have r9 : w.cell? ⟨R, 9, none⟩ = some (ptr P.a) := hR.sys.rg.rig.cell 9
  clear hR hC hI hQ
  conv => arg 2; whnf
  have BT := Lib.hid hbt
  have DZ := Lib.hid hz
  have hz2 : (mo != 0) = false := by simp at hz ⊢; exact hz
  clear hz hbt
  go_wp2_with fail
  refine (put_ri t A KC c L (decide (mo = 0)) hK CZ.out II.out RI.out (by omega)).mono ?_
  rintro e w8 ⟨rfl, O8, s8, hR, hO, hB⟩
  rw [BT.out, DZ.out]
  have Y8 := Lib.hid hR
  have r9 : w8.cell? ⟨R, 9, none⟩ = some (ptr P.a) := hR.sys.rg.rig.cell 9
  clear hR hO hB hX
  rw [show no (true && true) = 0 from rfl]
  go_wp2_with fail
  refine (mend_ri t Y8.out (by omega)).mono ?_
  rintro e w9 ⟨rfl, O9, s9, hR, hO, hB⟩
  rw [BT.out, show no10 true = 10 from rfl]
  have Y9 := Lib.hid hR
  clear hR hO hB r9
  go_wp2
  exact HQ.out w9 O9 s9 _ _ _ _ _ _ _ _ _ _ _ _ _ _ _ _ _ _ _ _ _ _ _ _ _ _ _ _ _ _ _ _ _ _ _ _ _ _ _ _ _ _ _ Y9.out

set_option maxRecDepth 1000000 in
set_option maxHeartbeats 3200000 in
theorem r14_big_true {B : Nat} {w0 w : World} {R q cap : Nat} {P : Pl} {O : Nat → Prop} {s0 s : AS} {U : Int} {X KC c : Nat} {A : Option Addr} {L : List Sl} (t k mo : Int) (hR : Ri B w0 R q cap P s0 U w O s) (hU : U ≤ 100) (hC : Cz w A KC L O) (hK : KC ≤ 100) (hI : ((KC : Int) = (s0.M : Int) - 1 ∧ Fits L s0.b) ↔ decide (mo = 0) = true) (hX : w.cell? ⟨X, 0, none⟩ = some (.int .i64 (s0.M : Int))) (hM : 3 ≤ (s0.M : Int) ∧ (s0.M : Int) ≤ 5)
    (hbt : decide (0 ≤ t ∧ t < s0.N) = true) (hz : decide (mo = 0) = true) (k0 : ¬ k < 0) (k1 : k > (s0.M : Int) - 2)
    (c0 c1 c4 c6 c7 c8 c9 c10 c11 c12 c13 c14 c17 c19 c22 c23 c24 c25 c26 c27 c28 c29 c30 c31 c32 c33 c34 c35 c36 c37 c38 c39 c40 c41 c42 c43 c44 c45 c46 c47 c48 c49 c50 c51 c52 c53 c54 c55 c56 c57 c58 c59 c60 c61 c62 c63 c64 c65 c66 c67 c68 c69 c70 c71 c72 c73 c74 c75 c76 c77 c78 c79 c80 c81 c82 c83 c84 c85 c86 c87 c88 c89 c90 c91 c92 c93 c94 c95 c96 c97 c98 c99 c100 c101 c102 c103 c104 c105 c106 c107 c108 c109 c110 c111 c112 c113 c114 c115 c116 c117 c118 c119 c120 c121 c122 c123 c124 c125 c126 c127 c128 c129 c130 c131 c132 c133 c134 c135 c136 c137 c138 c139 c140 c141 c142 c143 c144 c145 c146 c147 c148 c149 c150 c151 c152 c153 c154 c155 c156 c157 c158 c159 c160 c161 c162 c163 c164 c165 c166 c167 c168 c169 c170 c171 c172 c173 c174 c175 c176 c177 c178 c179 c180 c181 c182 c183 c184 c185 c186 c187 c188 c189 c190 c191 c192 c193 c194 c195 c196 c197 c198 c199 c200 c201 c202 c203 c204 c205 c206 c207 c208 c209 c210 c211 c212 c213 c214 c215 c216 c217 c218 c219 c220 c221 c222 c223 c224 c225 c226 c227 c228 c229 c230 c231 c232 c233 c234 c235 c236 c237 c238 c239 c240 c241 c242 c243 c244 c245 c246 c247 c248 c249 c250 c251 c252 c253 : Value) (Q : Exit → Act → World → Prop) (hQ : ∀ w' O' s' (d80 d81 d82 d83 d84 d85 d86 d87 d88 d89 d90 d91 d92 d93 d94 d95 d96 d97 d98 d99 d100 d101 d102 d103 d104 d105 d106 d107 d108 d109 d110 d111 d112 d113 d114 d115 d116 d117 d118 d119 d120 d121 d122 : Value), Ri B w0 R q cap P s0 (U + 20 + 20) w' O' s' → Q .normal ⟨#[c0, c1, .int .i64 t, .int .i64 k, c4, .int .i8 mo, c6, c7, c8, c9, c10, c11, c12, c13, c14, .pointer (some ⟨X, 0, none⟩), ptr R, c17, .slice A KC c, c19, .int .i64 1, .bool true, c22, c23, c24, c25, c26, c27, c28, c29, c30, c31, c32, c33, c34, c35, c36, c37, c38, c39, c40, c41, c42, c43, c44, c45, c46, c47, c48, c49, c50, c51, c52, c53, c54, c55, c56, c57, c58, c59, c60, c61, c62, c63, c64, c65, c66, c67, c68, c69, c70, c71, c72, c73, c74, c75, c76, c77, c78, c79, d80, d81, d82, d83, d84, d85, d86, d87, d88, d89, d90, d91, d92, d93, d94, d95, d96, d97, d98, d99, d100, d101, d102, d103, d104, d105, d106, d107, d108, d109, d110, d111, d112, d113, d114, d115, d116, d117, d118, d119, d120, d121, d122, .bool false, c124, c125, c126, c127, c128, c129, c130, c131, c132, c133, c134, c135, c136, c137, c138, c139, c140, c141, c142, c143, c144, c145, c146, c147, c148, c149, c150, c151, c152, c153, c154, c155, c156, c157, c158, c159, c160, c161, c162, c163, c164, c165, c166, c167, c168, c169, c170, c171, c172, c173, c174, c175, c176, c177, c178, c179, c180, c181, c182, c183, c184, c185, c186, c187, c188, c189, c190, c191, c192, c193, c194, c195, c196, c197, c198, c199, c200, c201, c202, c203, c204, c205, c206, c207, c208, c209, c210, c211, c212, c213, c214, c215, c216, c217, c218, c219, c220, c221, c222, c223, c224, c225, c226, c227, c228, c229, c230, c231, c232, c233, c234, c235, c236, c237, c238, c239, c240, c241, c242, c243, c244, c245, c246, c247, c248, c249, c250, c251, c252, c253], []⟩ w') : Code.wp Try.prog reg14 Q ⟨#[c0, c1, .int .i64 t, .int .i64 k, c4, .int .i8 mo, c6, c7, c8, c9, c10, c11, c12, c13, c14, .pointer (some ⟨X, 0, none⟩), ptr R, c17, .slice A KC c, c19, .int .i64 1, .bool true, c22, c23, c24, c25, c26, c27, c28, c29, c30, c31, c32, c33, c34, c35, c36, c37, c38, c39, c40, c41, c42, c43, c44, c45, c46, c47, c48, c49, c50, c51, c52, c53, c54, c55, c56, c57, c58, c59, c60, c61, c62, c63, c64, c65, c66, c67, c68, c69, c70, c71, c72, c73, c74, c75, c76, c77, c78, c79, c80, c81, c82, c83, c84, c85, c86, c87, c88, c89, c90, c91, c92, c93, c94, c95, c96, c97, c98, c99, c100, c101, c102, c103, c104, c105, c106, c107, c108, c109, c110, c111, c112, c113, c114, c115, c116, c117, c118, c119, c120, c121, c122, c123, c124, c125, c126, c127, c128, c129, c130, c131, c132, c133, c134, c135, c136, c137, c138, c139, c140, c141, c142, c143, c144, c145, c146, c147, c148, c149, c150, c151, c152, c153, c154, c155, c156, c157, c158, c159, c160, c161, c162, c163, c164, c165, c166, c167, c168, c169, c170, c171, c172, c173, c174, c175, c176, c177, c178, c179, c180, c181, c182, c183, c184, c185, c186, c187, c188, c189, c190, c191, c192, c193, c194, c195, c196, c197, c198, c199, c200, c201, c202, c203, c204, c205, c206, c207, c208, c209, c210, c211, c212, c213, c214, c215, c216, c217, c218, c219, c220, c221, c222, c223, c224, c225, c226, c227, c228, c229, c230, c231, c232, c233, c234, c235, c236, c237, c238, c239, c240, c241, c242, c243, c244, c245, c246, c247, c248, c249, c250, c251, c252, c253], []⟩ w := by
  have RI := Lib.hid hR
  have CZ := Lib.hid hC
  have II := Lib.hid hI
  have HQ := Lib.hid hQ
  have r9 : w.cell? ⟨R, 9, none⟩ = some (ptr P.a) := hR.sys.rg.rig.cell 9
  clear hR hC hI hQ
  conv => arg 2; whnf
  have BT := Lib.hid hbt
  have DZ := Lib.hid hz
  have hz2 : (mo != 0) = false := by simp at hz ⊢; exact hz
  clear hz hbt
  go_wp2_with fail
  refine (put_ri t A KC c L (decide (mo = 0)) hK CZ.out II.out RI.out (by omega)).mono ?_
  rintro e w8 ⟨rfl, O8, s8, hR, hO, hB⟩
  rw [BT.out, DZ.out]
  have Y8 := Lib.hid hR
  have r9 : w8.cell? ⟨R, 9, none⟩ = some (ptr P.a) := hR.sys.rg.rig.cell 9
  clear hR hO hB hX
  rw [show no (true && true) = 0 from rfl]
  go_wp2_with fail
  refine (mend_ri t Y8.out (by omega)).mono ?_
  rintro e w9 ⟨rfl, O9, s9, hR, hO, hB⟩
  rw [BT.out, show no10 true = 10 from rfl]
  have Y9 := Lib.hid hR
  clear hR hO hB r9
  go_wp2
  exact HQ.out w9 O9 s9 _ _ _ _ _ _ _ _ _ _ _ _ _ _ _ _ _ _ _ _ _ _ _ _ _ _ _ _ _ _ _ _ _ _ _ _ _ _ _ _ _ _ _ Y9.out

set_option maxRecDepth 1000000 in
set_option maxHeartbeats 3200000 in
theorem r14_ok_true {B : Nat} {w0 w : World} {R q cap : Nat} {P : Pl} {O : Nat → Prop} {s0 s : AS} {U : Int} {X KC c : Nat} {A : Option Addr} {L : List Sl} (t k mo : Int) (hR : Ri B w0 R q cap P s0 U w O s) (hU : U ≤ 100) (hC : Cz w A KC L O) (hK : KC ≤ 100) (hI : ((KC : Int) = (s0.M : Int) - 1 ∧ Fits L s0.b) ↔ decide (mo = 0) = true) (hX : w.cell? ⟨X, 0, none⟩ = some (.int .i64 (s0.M : Int))) (hM : 3 ≤ (s0.M : Int) ∧ (s0.M : Int) ≤ 5)
    (hbt : decide (0 ≤ t ∧ t < s0.N) = true) (hz : decide (mo = 0) = true) (k0 : ¬ k < 0) (k1 : ¬ k > (s0.M : Int) - 2)
    (c0 c1 c4 c6 c7 c8 c9 c10 c11 c12 c13 c14 c17 c19 c22 c23 c24 c25 c26 c27 c28 c29 c30 c31 c32 c33 c34 c35 c36 c37 c38 c39 c40 c41 c42 c43 c44 c45 c46 c47 c48 c49 c50 c51 c52 c53 c54 c55 c56 c57 c58 c59 c60 c61 c62 c63 c64 c65 c66 c67 c68 c69 c70 c71 c72 c73 c74 c75 c76 c77 c78 c79 c80 c81 c82 c83 c84 c85 c86 c87 c88 c89 c90 c91 c92 c93 c94 c95 c96 c97 c98 c99 c100 c101 c102 c103 c104 c105 c106 c107 c108 c109 c110 c111 c112 c113 c114 c115 c116 c117 c118 c119 c120 c121 c122 c123 c124 c125 c126 c127 c128 c129 c130 c131 c132 c133 c134 c135 c136 c137 c138 c139 c140 c141 c142 c143 c144 c145 c146 c147 c148 c149 c150 c151 c152 c153 c154 c155 c156 c157 c158 c159 c160 c161 c162 c163 c164 c165 c166 c167 c168 c169 c170 c171 c172 c173 c174 c175 c176 c177 c178 c179 c180 c181 c182 c183 c184 c185 c186 c187 c188 c189 c190 c191 c192 c193 c194 c195 c196 c197 c198 c199 c200 c201 c202 c203 c204 c205 c206 c207 c208 c209 c210 c211 c212 c213 c214 c215 c216 c217 c218 c219 c220 c221 c222 c223 c224 c225 c226 c227 c228 c229 c230 c231 c232 c233 c234 c235 c236 c237 c238 c239 c240 c241 c242 c243 c244 c245 c246 c247 c248 c249 c250 c251 c252 c253 : Value) (Q : Exit → Act → World → Prop) (hQ : ∀ w' O' s' (d80 d81 d82 d83 d84 d85 d86 d87 d88 d89 d90 d91 d92 d93 d94 d95 d96 d97 d98 d99 d100 d101 d102 d103 d104 d105 d106 d107 d108 d109 d110 d111 d112 d113 d114 d115 d116 d117 d118 d119 d120 d121 d122 : Value), Ri B w0 R q cap P s0 (U + 20 + 20) w' O' s' → Q .normal ⟨#[c0, c1, .int .i64 t, .int .i64 k, c4, .int .i8 mo, c6, c7, c8, c9, c10, c11, c12, c13, c14, .pointer (some ⟨X, 0, none⟩), ptr R, c17, .slice A KC c, c19, .int .i64 0, .bool true, c22, c23, c24, c25, c26, c27, c28, c29, c30, c31, c32, c33, c34, c35, c36, c37, c38, c39, c40, c41, c42, c43, c44, c45, c46, c47, c48, c49, c50, c51, c52, c53, c54, c55, c56, c57, c58, c59, c60, c61, c62, c63, c64, c65, c66, c67, c68, c69, c70, c71, c72, c73, c74, c75, c76, c77, c78, c79, d80, d81, d82, d83, d84, d85, d86, d87, d88, d89, d90, d91, d92, d93, d94, d95, d96, d97, d98, d99, d100, d101, d102, d103, d104, d105, d106, d107, d108, d109, d110, d111, d112, d113, d114, d115, d116, d117, d118, d119, d120, d121, d122, .bool false, c124, c125, c126, c127, c128, c129, c130, c131, c132, c133, c134, c135, c136, c137, c138, c139, c140, c141, c142, c143, c144, c145, c146, c147, c148, c149, c150, c151, c152, c153, c154, c155, c156, c157, c158, c159, c160, c161, c162, c163, c164, c165, c166, c167, c168, c169, c170, c171, c172, c173, c174, c175, c176, c177, c178, c179, c180, c181, c182, c183, c184, c185, c186, c187, c188, c189, c190, c191, c192, c193, c194, c195, c196, c197, c198, c199, c200, c201, c202, c203, c204, c205, c206, c207, c208, c209, c210, c211, c212, c213, c214, c215, c216, c217, c218, c219, c220, c221, c222, c223, c224, c225, c226, c227, c228, c229, c230, c231, c232, c233, c234, c235, c236, c237, c238, c239, c240, c241, c242, c243, c244, c245, c246, c247, c248, c249, c250, c251, c252, c253], []⟩ w') : Code.wp Try.prog reg14 Q ⟨#[c0, c1, .int .i64 t, .int .i64 k, c4, .int .i8 mo, c6, c7, c8, c9, c10, c11, c12, c13, c14, .pointer (some ⟨X, 0, none⟩), ptr R, c17, .slice A KC c, c19, .int .i64 0, .bool true, c22, c23, c24, c25, c26, c27, c28, c29, c30, c31, c32, c33, c34, c35, c36, c37, c38, c39, c40, c41, c42, c43, c44, c45, c46, c47, c48, c49, c50, c51, c52, c53, c54, c55, c56, c57, c58, c59, c60, c61, c62, c63, c64, c65, c66, c67, c68, c69, c70, c71, c72, c73, c74, c75, c76, c77, c78, c79, c80, c81, c82, c83, c84, c85, c86, c87, c88, c89, c90, c91, c92, c93, c94, c95, c96, c97, c98, c99, c100, c101, c102, c103, c104, c105, c106, c107, c108, c109, c110, c111, c112, c113, c114, c115, c116, c117, c118, c119, c120, c121, c122, c123, c124, c125, c126, c127, c128, c129, c130, c131, c132, c133, c134, c135, c136, c137, c138, c139, c140, c141, c142, c143, c144, c145, c146, c147, c148, c149, c150, c151, c152, c153, c154, c155, c156, c157, c158, c159, c160, c161, c162, c163, c164, c165, c166, c167, c168, c169, c170, c171, c172, c173, c174, c175, c176, c177, c178, c179, c180, c181, c182, c183, c184, c185, c186, c187, c188, c189, c190, c191, c192, c193, c194, c195, c196, c197, c198, c199, c200, c201, c202, c203, c204, c205, c206, c207, c208, c209, c210, c211, c212, c213, c214, c215, c216, c217, c218, c219, c220, c221, c222, c223, c224, c225, c226, c227, c228, c229, c230, c231, c232, c233, c234, c235, c236, c237, c238, c239, c240, c241, c242, c243, c244, c245, c246, c247, c248, c249, c250, c251, c252, c253], []⟩ w := by
  have RI := Lib.hid hR
  have CZ := Lib.hid hC
  have II := Lib.hid hI
  have HQ := Lib.hid hQ
  have r9 : w.cell? ⟨R, 9, none⟩ = some (ptr P.a) := hR.sys.rg.rig.cell 9
  clear hR hC hI hQ
  conv => arg 2; whnf
  have BT := Lib.hid hbt
  have DZ := Lib.hid hz
  have hz2 : (mo != 0) = false := by simp at hz ⊢; exact hz
  clear hz hbt
  go_wp2_with fail
  refine (put_ri t A KC c L (decide (mo = 0)) hK CZ.out II.out RI.out (by omega)).mono ?_
  rintro e w8 ⟨rfl, O8, s8, hR, hO, hB⟩
  rw [BT.out, DZ.out]
  have Y8 := Lib.hid hR
  have r9 : w8.cell? ⟨R, 9, none⟩ = some (ptr P.a) := hR.sys.rg.rig.cell 9
  clear hR hO hB hX
  rw [show no (true && true) = 0 from rfl]
  go_wp2_with fail
  refine (mend_ri t Y8.out (by omega)).mono ?_
  rintro e w9 ⟨rfl, O9, s9, hR, hO, hB⟩
  rw [BT.out, show no10 true = 10 from rfl]
  have Y9 := Lib.hid hR
  clear hR hO hB r9
  go_wp2
  exact HQ.out w9 O9 s9 _ _ _ _ _ _ _ _ _ _ _ _ _ _ _ _ _ _ _ _ _ _ _ _ _ _ _ _ _ _ _ _ _ _ _ _ _ _ _ _ _ _ _ Y9.out


set_option maxRecDepth 1000000 in
set_option maxHeartbeats 3200000 in
theorem r14_any {B : Nat} {w0 w : World} {R q cap : Nat} {P : Pl} {O : Nat → Prop} {s0 s : AS} {U : Int} {X : Nat} {KC c : Nat} {A : Option Addr} {L : List Sl} {bt bk : Bool} (t k mo : Int) (hbt : decide (0 ≤ t ∧ t < s0.N) = bt) (hbk : decide (0 ≤ k ∧ k < (s0.M : Int) - 1) = bk) (hR : Ri B w0 R q cap P s0 U w O s) (hU : U ≤ 100) (hC : Cz w A KC L O) (hK : KC ≤ 100) (hI : ((KC : Int) = (s0.M : Int) - 1 ∧ Fits L s0.b) ↔ decide (mo = 0) = true) (hX : w.cell? ⟨X, 0, none⟩ = some (.int .i64 (s0.M : Int))) (hM : 3 ≤ (s0.M : Int) ∧ (s0.M : Int) ≤ 5)
    (c0 c1 c4 c6 c7 c8 c9 c10 c11 c12 c13 c14 c17 c19 c22 c23 c24 c25 c26 c27 c28 c29 c30 c31 c32 c33 c34 c35 c36 c37 c38 c39 c40 c41 c42 c43 c44 c45 c46 c47 c48 c49 c50 c51 c52 c53 c54 c55 c56 c57 c58 c59 c60 c61 c62 c63 c64 c65 c66 c67 c68 c69 c70 c71 c72 c73 c74 c75 c76 c77 c78 c79 c80 c81 c82 c83 c84 c85 c86 c87 c88 c89 c90 c91 c92 c93 c94 c95 c96 c97 c98 c99 c100 c101 c102 c103 c104 c105 c106 c107 c108 c109 c110 c111 c112 c113 c114 c115 c116 c117 c118 c119 c120 c121 c122 c123 c124 c125 c126 c127 c128 c129 c130 c131 c132 c133 c134 c135 c136 c137 c138 c139 c140 c141 c142 c143 c144 c145 c146 c147 c148 c149 c150 c151 c152 c153 c154 c155 c156 c157 c158 c159 c160 c161 c162 c163 c164 c165 c166 c167 c168 c169 c170 c171 c172 c173 c174 c175 c176 c177 c178 c179 c180 c181 c182 c183 c184 c185 c186 c187 c188 c189 c190 c191 c192 c193 c194 c195 c196 c197 c198 c199 c200 c201 c202 c203 c204 c205 c206 c207 c208 c209 c210 c211 c212 c213 c214 c215 c216 c217 c218 c219 c220 c221 c222 c223 c224 c225 c226 c227 c228 c229 c230 c231 c232 c233 c234 c235 c236 c237 c238 c239 c240 c241 c242 c243 c244 c245 c246 c247 c248 c249 c250 c251 c252 c253 : Value) (Q : Exit → Act → World → Prop) (hQ : ∀ w' O' s' (d80 d81 d82 d83 d84 d85 d86 d87 d88 d89 d90 d91 d92 d93 d94 d95 d96 d97 d98 d99 d100 d101 d102 d103 d104 d105 d106 d107 d108 d109 d110 d111 d112 d113 d114 d115 d116 d117 d118 d119 d120 d121 d122 : Value), Ri B w0 R q cap P s0 (U + 20 + 20) w' O' s' → Q .normal ⟨#[c0, c1, .int .i64 t, .int .i64 k, c4, .int .i8 mo, c6, c7, c8, c9, c10, c11, c12, c13, c14, .pointer (some ⟨X, 0, none⟩), ptr R, c17, .slice A KC c, c19, .int .i64 (no (bt && bk)), .bool bt, c22, c23, c24, c25, c26, c27, c28, c29, c30, c31, c32, c33, c34, c35, c36, c37, c38, c39, c40, c41, c42, c43, c44, c45, c46, c47, c48, c49, c50, c51, c52, c53, c54, c55, c56, c57, c58, c59, c60, c61, c62, c63, c64, c65, c66, c67, c68, c69, c70, c71, c72, c73, c74, c75, c76, c77, c78, c79, d80, d81, d82, d83, d84, d85, d86, d87, d88, d89, d90, d91, d92, d93, d94, d95, d96, d97, d98, d99, d100, d101, d102, d103, d104, d105, d106, d107, d108, d109, d110, d111, d112, d113, d114, d115, d116, d117, d118, d119, d120, d121, d122, .bool false, c124, c125, c126, c127, c128, c129, c130, c131, c132, c133, c134, c135, c136, c137, c138, c139, c140, c141, c142, c143, c144, c145, c146, c147, c148, c149, c150, c151, c152, c153, c154, c155, c156, c157, c158, c159, c160, c161, c162, c163, c164, c165, c166, c167, c168, c169, c170, c171, c172, c173, c174, c175, c176, c177, c178, c179, c180, c181, c182, c183, c184, c185, c186, c187, c188, c189, c190, c191, c192, c193, c194, c195, c196, c197, c198, c199, c200, c201, c202, c203, c204, c205, c206, c207, c208, c209, c210, c211, c212, c213, c214, c215, c216, c217, c218, c219, c220, c221, c222, c223, c224, c225, c226, c227, c228, c229, c230, c231, c232, c233, c234, c235, c236, c237, c238, c239, c240, c241, c242, c243, c244, c245, c246, c247, c248, c249, c250, c251, c252, c253], []⟩ w') : Code.wp Try.prog reg14 Q ⟨#[c0, c1, .int .i64 t, .int .i64 k, c4, .int .i8 mo, c6, c7, c8, c9, c10, c11, c12, c13, c14, .pointer (some ⟨X, 0, none⟩), ptr R, c17, .slice A KC c, c19, .int .i64 (no (bt && bk)), .bool bt, c22, c23, c24, c25, c26, c27, c28, c29, c30, c31, c32, c33, c34, c35, c36, c37, c38, c39, c40, c41, c42, c43, c44, c45, c46, c47, c48, c49, c50, c51, c52, c53, c54, c55, c56, c57, c58, c59, c60, c61, c62, c63, c64, c65, c66, c67, c68, c69, c70, c71, c72, c73, c74, c75, c76, c77, c78, c79, c80, c81, c82, c83, c84, c85, c86, c87, c88, c89, c90, c91, c92, c93, c94, c95, c96, c97, c98, c99, c100, c101, c102, c103, c104, c105, c106, c107, c108, c109, c110, c111, c112, c113, c114, c115, c116, c117, c118, c119, c120, c121, c122, c123, c124, c125, c126, c127, c128, c129, c130, c131, c132, c133, c134, c135, c136, c137, c138, c139, c140, c141, c142, c143, c144, c145, c146, c147, c148, c149, c150, c151, c152, c153, c154, c155, c156, c157, c158, c159, c160, c161, c162, c163, c164, c165, c166, c167, c168, c169, c170, c171, c172, c173, c174, c175, c176, c177, c178, c179, c180, c181, c182, c183, c184, c185, c186, c187, c188, c189, c190, c191, c192, c193, c194, c195, c196, c197, c198, c199, c200, c201, c202, c203, c204, c205, c206, c207, c208, c209, c210, c211, c212, c213, c214, c215, c216, c217, c218, c219, c220, c221, c222, c223, c224, c225, c226, c227, c228, c229, c230, c231, c232, c233, c234, c235, c236, c237, c238, c239, c240, c241, c242, c243, c244, c245, c246, c247, c248, c249, c250, c251, c252, c253], []⟩ w := by
  cases bt
  · exact r14_off t k mo hR hU hC hK hI hX hM hbt c0 c1 c4 c6 c7 c8 c9 c10 c11 c12 c13 c14 c17 c19 c22 c23 c24 c25 c26 c27 c28 c29 c30 c31 c32 c33 c34 c35 c36 c37 c38 c39 c40 c41 c42 c43 c44 c45 c46 c47 c48 c49 c50 c51 c52 c53 c54 c55 c56 c57 c58 c59 c60 c61 c62 c63 c64 c65 c66 c67 c68 c69 c70 c71 c72 c73 c74 c75 c76 c77 c78 c79 c80 c81 c82 c83 c84 c85 c86 c87 c88 c89 c90 c91 c92 c93 c94 c95 c96 c97 c98 c99 c100 c101 c102 c103 c104 c105 c106 c107 c108 c109 c110 c111 c112 c113 c114 c115 c116 c117 c118 c119 c120 c121 c122 c123 c124 c125 c126 c127 c128 c129 c130 c131 c132 c133 c134 c135 c136 c137 c138 c139 c140 c141 c142 c143 c144 c145 c146 c147 c148 c149 c150 c151 c152 c153 c154 c155 c156 c157 c158 c159 c160 c161 c162 c163 c164 c165 c166 c167 c168 c169 c170 c171 c172 c173 c174 c175 c176 c177 c178 c179 c180 c181 c182 c183 c184 c185 c186 c187 c188 c189 c190 c191 c192 c193 c194 c195 c196 c197 c198 c199 c200 c201 c202 c203 c204 c205 c206 c207 c208 c209 c210 c211 c212 c213 c214 c215 c216 c217 c218 c219 c220 c221 c222 c223 c224 c225 c226 c227 c228 c229 c230 c231 c232 c233 c234 c235 c236 c237 c238 c239 c240 c241 c242 c243 c244 c245 c246 c247 c248 c249 c250 c251 c252 c253 Q hQ
  · cases bk
    · have hkk := of_decide_eq_false hbk
      by_cases k0 : k < 0
      · cases hz : decide (mo = 0)
        · exact r14_neg_false t k mo hR hU hC hK hI hX hM hbt hz k0 c0 c1 c4 c6 c7 c8 c9 c10 c11 c12 c13 c14 c17 c19 c22 c23 c24 c25 c26 c27 c28 c29 c30 c31 c32 c33 c34 c35 c36 c37 c38 c39 c40 c41 c42 c43 c44 c45 c46 c47 c48 c49 c50 c51 c52 c53 c54 c55 c56 c57 c58 c59 c60 c61 c62 c63 c64 c65 c66 c67 c68 c69 c70 c71 c72 c73 c74 c75 c76 c77 c78 c79 c80 c81 c82 c83 c84 c85 c86 c87 c88 c89 c90 c91 c92 c93 c94 c95 c96 c97 c98 c99 c100 c101 c102 c103 c104 c105 c106 c107 c108 c109 c110 c111 c112 c113 c114 c115 c116 c117 c118 c119 c120 c121 c122 c123 c124 c125 c126 c127 c128 c129 c130 c131 c132 c133 c134 c135 c136 c137 c138 c139 c140 c141 c142 c143 c144 c145 c146 c147 c148 c149 c150 c151 c152 c153 c154 c155 c156 c157 c158 c159 c160 c161 c162 c163 c164 c165 c166 c167 c168 c169 c170 c171 c172 c173 c174 c175 c176 c177 c178 c179 c180 c181 c182 c183 c184 c185 c186 c187 c188 c189 c190 c191 c192 c193 c194 c195 c196 c197 c198 c199 c200 c201 c202 c203 c204 c205 c206 c207 c208 c209 c210 c211 c212 c213 c214 c215 c216 c217 c218 c219 c220 c221 c222 c223 c224 c225 c226 c227 c228 c229 c230 c231 c232 c233 c234 c235 c236 c237 c238 c239 c240 c241 c242 c243 c244 c245 c246 c247 c248 c249 c250 c251 c252 c253 Q hQ
        · exact r14_neg_true t k mo hR hU hC hK hI hX hM hbt hz k0 c0 c1 c4 c6 c7 c8 c9 c10 c11 c12 c13 c14 c17 c19 c22 c23 c24 c25 c26 c27 c28 c29 c30 c31 c32 c33 c34 c35 c36 c37 c38 c39 c40 c41 c42 c43 c44 c45 c46 c47 c48 c49 c50 c51 c52 c53 c54 c55 c56 c57 c58 c59 c60 c61 c62 c63 c64 c65 c66 c67 c68 c69 c70 c71 c72 c73 c74 c75 c76 c77 c78 c79 c80 c81 c82 c83 c84 c85 c86 c87 c88 c89 c90 c91 c92 c93 c94 c95 c96 c97 c98 c99 c100 c101 c102 c103 c104 c105 c106 c107 c108 c109 c110 c111 c112 c113 c114 c115 c116 c117 c118 c119 c120 c121 c122 c123 c124 c125 c126 c127 c128 c129 c130 c131 c132 c133 c134 c135 c136 c137 c138 c139 c140 c141 c142 c143 c144 c145 c146 c147 c148 c149 c150 c151 c152 c153 c154 c155 c156 c157 c158 c159 c160 c161 c162 c163 c164 c165 c166 c167 c168 c169 c170 c171 c172 c173 c174 c175 c176 c177 c178 c179 c180 c181 c182 c183 c184 c185 c186 c187 c188 c189 c190 c191 c192 c193 c194 c195 c196 c197 c198 c199 c200 c201 c202 c203 c204 c205 c206 c207 c208 c209 c210 c211 c212 c213 c214 c215 c216 c217 c218 c219 c220 c221 c222 c223 c224 c225 c226 c227 c228 c229 c230 c231 c232 c233 c234 c235 c236 c237 c238 c239 c240 c241 c242 c243 c244 c245 c246 c247 c248 c249 c250 c251 c252 c253 Q hQ
      · have k1 : k > (s0.M : Int) - 2 := by omega
        cases hz : decide (mo = 0)
        · exact r14_big_false t k mo hR hU hC hK hI hX hM hbt hz k0 k1 c0 c1 c4 c6 c7 c8 c9 c10 c11 c12 c13 c14 c17 c19 c22 c23 c24 c25 c26 c27 c28 c29 c30 c31 c32 c33 c34 c35 c36 c37 c38 c39 c40 c41 c42 c43 c44 c45 c46 c47 c48 c49 c50 c51 c52 c53 c54 c55 c56 c57 c58 c59 c60 c61 c62 c63 c64 c65 c66 c67 c68 c69 c70 c71 c72 c73 c74 c75 c76 c77 c78 c79 c80 c81 c82 c83 c84 c85 c86 c87 c88 c89 c90 c91 c92 c93 c94 c95 c96 c97 c98 c99 c100 c101 c102 c103 c104 c105 c106 c107 c108 c109 c110 c111 c112 c113 c114 c115 c116 c117 c118 c119 c120 c121 c122 c123 c124 c125 c126 c127 c128 c129 c130 c131 c132 c133 c134 c135 c136 c137 c138 c139 c140 c141 c142 c143 c144 c145 c146 c147 c148 c149 c150 c151 c152 c153 c154 c155 c156 c157 c158 c159 c160 c161 c162 c163 c164 c165 c166 c167 c168 c169 c170 c171 c172 c173 c174 c175 c176 c177 c178 c179 c180 c181 c182 c183 c184 c185 c186 c187 c188 c189 c190 c191 c192 c193 c194 c195 c196 c197 c198 c199 c200 c201 c202 c203 c204 c205 c206 c207 c208 c209 c210 c211 c212 c213 c214 c215 c216 c217 c218 c219 c220 c221 c222 c223 c224 c225 c226 c227 c228 c229 c230 c231 c232 c233 c234 c235 c236 c237 c238 c239 c240 c241 c242 c243 c244 c245 c246 c247 c248 c249 c250 c251 c252 c253 Q hQ
        · exact r14_big_true t k mo hR hU hC hK hI hX hM hbt hz k0 k1 c0 c1 c4 c6 c7 c8 c9 c10 c11 c12 c13 c14 c17 c19 c22 c23 c24 c25 c26 c27 c28 c29 c30 c31 c32 c33 c34 c35 c36 c37 c38 c39 c40 c41 c42 c43 c44 c45 c46 c47 c48 c49 c50 c51 c52 c53 c54 c55 c56 c57 c58 c59 c60 c61 c62 c63 c64 c65 c66 c67 c68 c69 c70 c71 c72 c73 c74 c75 c76 c77 c78 c79 c80 c81 c82 c83 c84 c85 c86 c87 c88 c89 c90 c91 c92 c93 c94 c95 c96 c97 c98 c99 c100 c101 c102 c103 c104 c105 c106 c107 c108 c109 c110 c111 c112 c113 c114 c115 c116 c117 c118 c119 c120 c121 c122 c123 c124 c125 c126 c127 c128 c129 c130 c131 c132 c133 c134 c135 c136 c137 c138 c139 c140 c141 c142 c143 c144 c145 c146 c147 c148 c149 c150 c151 c152 c153 c154 c155 c156 c157 c158 c159 c160 c161 c162 c163 c164 c165 c166 c167 c168 c169 c170 c171 c172 c173 c174 c175 c176 c177 c178 c179 c180 c181 c182 c183 c184 c185 c186 c187 c188 c189 c190 c191 c192 c193 c194 c195 c196 c197 c198 c199 c200 c201 c202 c203 c204 c205 c206 c207 c208 c209 c210 c211 c212 c213 c214 c215 c216 c217 c218 c219 c220 c221 c222 c223 c224 c225 c226 c227 c228 c229 c230 c231 c232 c233 c234 c235 c236 c237 c238 c239 c240 c241 c242 c243 c244 c245 c246 c247 c248 c249 c250 c251 c252 c253 Q hQ
    · have hkk := of_decide_eq_true hbk
      have k0 : ¬ k < 0 := by omega
      have k1 : ¬ k > (s0.M : Int) - 2 := by omega
      cases hz : decide (mo = 0)
      · exact r14_ok_false t k mo hR hU hC hK hI hX hM hbt hz k0 k1 c0 c1 c4 c6 c7 c8 c9 c10 c11 c12 c13 c14 c17 c19 c22 c23 c24 c25 c26 c27 c28 c29 c30 c31 c32 c33 c34 c35 c36 c37 c38 c39 c40 c41 c42 c43 c44 c45 c46 c47 c48 c49 c50 c51 c52 c53 c54 c55 c56 c57 c58 c59 c60 c61 c62 c63 c64 c65 c66 c67 c68 c69 c70 c71 c72 c73 c74 c75 c76 c77 c78 c79 c80 c81 c82 c83 c84 c85 c86 c87 c88 c89 c90 c91 c92 c93 c94 c95 c96 c97 c98 c99 c100 c101 c102 c103 c104 c105 c106 c107 c108 c109 c110 c111 c112 c113 c114 c115 c116 c117 c118 c119 c120 c121 c122 c123 c124 c125 c126 c127 c128 c129 c130 c131 c132 c133 c134 c135 c136 c137 c138 c139 c140 c141 c142 c143 c144 c145 c146 c147 c148 c149 c150 c151 c152 c153 c154 c155 c156 c157 c158 c159 c160 c161 c162 c163 c164 c165 c166 c167 c168 c169 c170 c171 c172 c173 c174 c175 c176 c177 c178 c179 c180 c181 c182 c183 c184 c185 c186 c187 c188 c189 c190 c191 c192 c193 c194 c195 c196 c197 c198 c199 c200 c201 c202 c203 c204 c205 c206 c207 c208 c209 c210 c211 c212 c213 c214 c215 c216 c217 c218 c219 c220 c221 c222 c223 c224 c225 c226 c227 c228 c229 c230 c231 c232 c233 c234 c235 c236 c237 c238 c239 c240 c241 c242 c243 c244 c245 c246 c247 c248 c249 c250 c251 c252 c253 Q hQ
      · exact r14_ok_true t k mo hR hU hC hK hI hX hM hbt hz k0 k1 c0 c1 c4 c6 c7 c8 c9 c10 c11 c12 c13 c14 c17 c19 c22 c23 c24 c25 c26 c27 c28 c29 c30 c31 c32 c33 c34 c35 c36 c37 c38 c39 c40 c41 c42 c43 c44 c45 c46 c47 c48 c49 c50 c51 c52 c53 c54 c55 c56 c57 c58 c59 c60 c61 c62 c63 c64 c65 c66 c67 c68 c69 c70 c71 c72 c73 c74 c75 c76 c77 c78 c79 c80 c81 c82 c83 c84 c85 c86 c87 c88 c89 c90 c91 c92 c93 c94 c95 c96 c97 c98 c99 c100 c101 c102 c103 c104 c105 c106 c107 c108 c109 c110 c111 c112 c113 c114 c115 c116 c117 c118 c119 c120 c121 c122 c123 c124 c125 c126 c127 c128 c129 c130 c131 c132 c133 c134 c135 c136 c137 c138 c139 c140 c141 c142 c143 c144 c145 c146 c147 c148 c149 c150 c151 c152 c153 c154 c155 c156 c157 c158 c159 c160 c161 c162 c163 c164 c165 c166 c167 c168 c169 c170 c171 c172 c173 c174 c175 c176 c177 c178 c179 c180 c181 c182 c183 c184 c185 c186 c187 c188 c189 c190 c191 c192 c193 c194 c195 c196 c197 c198 c199 c200 c201 c202 c203 c204 c205 c206 c207 c208 c209 c210 c211 c212 c213 c214 c215 c216 c217 c218 c219 c220 c221 c222 c223 c224 c225 c226 c227 c228 c229 c230 c231 c232 c233 c234 c235 c236 c237 c238 c239 c240 c241 c242 c243 c244 c245 c246 c247 c248 c249 c250 c251 c252 c253 Q hQ
theorem At.range {w : World} {X : Nat} {s : AS} (h : At w X #[.int .i64 (s.M : Int), .int .i64 s.b, .int .i64 s.g, .int .i64 s.s, .int .i64 s.n, .int .i64 s.l] 30) : w.rangeAt X 0 s.sh := by
  intro j v hv
  rw [Nat.zero_add, h.cell]
  simpa [AS.sh] using hv
noncomputable def reg18 : Code := (Try.f7.body.bind (findRegion 18)).getD .skip
noncomputable def reg21 : Code := (Try.f7.body.bind (findRegion 21)).getD .skip

set_option maxRecDepth 1000000 in
set_option maxHeartbeats 3200000 in
theorem r18_false {B : Nat} {w0 w : World} {R q cap : Nat} {P : Pl} {O : Nat → Prop} {s0 s : AS} {U : Int} {X : Nat} (i : Int) (hR : Ri B w0 R q cap P s0 U w O s) (hU : U ≤ 300) (hB : ∀ wx O' s', Ri B w0 R q cap P s0 400 wx O' s' → wx.rangeAt X 0 s0.sh) (hb48 : 32 ≤ s0.b ∧ s0.b ≤ 48) (hbi : decide (0 ≤ i ∧ i < (s0.S : Int)) = false)
    (c0 c1 c2 c3 c5 c6 c7 c8 c9 c10 c11 c12 c13 c14 c17 c18 c19 c20 c21 c22 c25 c26 c27 c28 c29 c30 c31 c32 c33 c34 c35 c36 c37 c38 c39 c40 c41 c42 c43 c44 c45 c46 c47 c48 c49 c50 c51 c52 c53 c54 c55 c56 c57 c58 c59 c60 c61 c62 c63 c64 c65 c66 c67 c68 c69 c70 c71 c72 c73 c74 c75 c76 c77 c78 c79 c80 c81 c82 c83 c84 c85 c86 c87 c88 c89 c90 c91 c92 c93 c94 c95 c96 c97 c98 c99 c100 c101 c102 c103 c104 c105 c106 c107 c108 c109 c110 c111 c112 c113 c114 c115 c116 c117 c118 c119 c120 c121 c122 c123 c124 c125 c126 c127 c128 c129 c130 c131 c132 c133 c134 c135 c136 c137 c138 c139 c140 c141 c142 c143 c144 c145 c146 c147 c148 c149 c150 c151 c152 c153 c154 c155 c156 c157 c158 c159 c160 c161 c162 c163 c164 c165 c166 c167 c168 c169 c170 c171 c172 c173 c174 c175 c176 c177 c178 c179 c180 c181 c182 c183 c184 c185 c186 c187 c188 c189 c190 c191 c192 c193 c194 c195 c196 c197 c198 c199 c200 c201 c202 c203 c204 c205 c206 c207 c208 c209 c210 c211 c212 c213 c214 c215 c216 c217 c218 c219 c220 c221 c222 c223 c224 c225 c226 c227 c228 c229 c230 c231 c232 c233 c234 c235 c236 c237 c238 c239 c240 c241 c242 c243 c244 c245 c246 c247 c248 c249 c250 c251 c252 c253 : Value) (Q : Exit → Act → World → Prop) (hP : ∀ t v c a w, Q (.panic c) (a.put (some t) v) w → Q (.panic c) a w) (hQ : ∀ w' O' s' (d141 d142 d143 d144 d145 d146 d147 d148 d149 d150 d151 d152 d153 d154 d155 d156 d157 d158 d159 d160 d161 d162 d163 d164 d165 d166 d167 d168 d169 d170 d171 d172 d173 : Value), Ri B w0 R q cap P s0 (U + 20 + 20 + 20) w' O' s' → Q .normal ⟨#[c0, c1, c2, c3, .int .i64 i, c5, c6, c7, c8, c9, c10, c11, c12, c13, c14, .pointer (some ⟨X, 0, none⟩), ptr R, c17, c18, c19, c20, c21, c22, .int .i64 1, .bool false, c25, c26, c27, c28, c29, c30, c31, c32, c33, c34, c35, c36, c37, c38, c39, c40, c41, c42, c43, c44, c45, c46, c47, c48, c49, c50, c51, c52, c53, c54, c55, c56, c57, c58, c59, c60, c61, c62, c63, c64, c65, c66, c67, c68, c69, c70, c71, c72, c73, c74, c75, c76, c77, c78, c79, c80, c81, c82, c83, c84, c85, c86, c87, c88, c89, c90, c91, c92, c93, c94, c95, c96, c97, c98, c99, c100, c101, c102, c103, c104, c105, c106, c107, c108, c109, c110, c111, c112, c113, c114, c115, c116, c117, c118, c119, c120, c121, c122, c123, c124, c125, c126, c127, c128, c129, c130, c131, c132, c133, c134, c135, c136, c137, c138, c139, c140, d141, d142, d143, d144, d145, d146, d147, d148, d149, d150, d151, d152, d153, d154, d155, d156, d157, d158, d159, d160, d161, d162, d163, d164, d165, d166, d167, d168, d169, d170, d171, d172, d173, .bool false, c175, c176, c177, c178, c179, c180, c181, c182, c183, c184, c185, c186, c187, c188, c189, c190, c191, c192, c193, c194, c195, c196, c197, c198, c199, c200, c201, c202, c203, c204, c205, c206, c207, c208, c209, c210, c211, c212, c213, c214, c215, c216, c217, c218, c219, c220, c221, c222, c223, c224, c225, c226, c227, c228, c229, c230, c231, c232, c233, c234, c235, c236, c237, c238, c239, c240, c241, c242, c243, c244, c245, c246, c247, c248, c249, c250, c251, c252, c253], []⟩ w') : Code.wp Try.prog reg18 Q ⟨#[c0, c1, c2, c3, .int .i64 i, c5, c6, c7, c8, c9, c10, c11, c12, c13, c14, .pointer (some ⟨X, 0, none⟩), ptr R, c17, c18, c19, c20, c21, c22, .int .i64 1, .bool false, c25, c26, c27, c28, c29, c30, c31, c32, c33, c34, c35, c36, c37, c38, c39, c40, c41, c42, c43, c44, c45, c46, c47, c48, c49, c50, c51, c52, c53, c54, c55, c56, c57, c58, c59, c60, c61, c62, c63, c64, c65, c66, c67, c68, c69, c70, c71, c72, c73, c74, c75, c76, c77, c78, c79, c80, c81, c82, c83, c84, c85, c86, c87, c88, c89, c90, c91, c92, c93, c94, c95, c96, c97, c98, c99, c100, c101, c102, c103, c104, c105, c106, c107, c108, c109, c110, c111, c112, c113, c114, c115, c116, c117, c118, c119, c120, c121, c122, c123, c124, c125, c126, c127, c128, c129, c130, c131, c132, c133, c134, c135, c136, c137, c138, c139, c140, c141, c142, c143, c144, c145, c146, c147, c148, c149, c150, c151, c152, c153, c154, c155, c156, c157, c158, c159, c160, c161, c162, c163, c164, c165, c166, c167, c168, c169, c170, c171, c172, c173, c174, c175, c176, c177, c178, c179, c180, c181, c182, c183, c184, c185, c186, c187, c188, c189, c190, c191, c192, c193, c194, c195, c196, c197, c198, c199, c200, c201, c202, c203, c204, c205, c206, c207, c208, c209, c210, c211, c212, c213, c214, c215, c216, c217, c218, c219, c220, c221, c222, c223, c224, c225, c226, c227, c228, c229, c230, c231, c232, c233, c234, c235, c236, c237, c238, c239, c240, c241, c242, c243, c244, c245, c246, c247, c248, c249, c250, c251, c252, c253], []⟩ w := by
  have YY := Lib.hid hR
  have HQ := Lib.hid hQ
  have HP := Lib.hid hP
  have BX := Lib.hid hB
  have BI := Lib.hid hbi
  have MO := Lib.hid (show ∀ U' wx O' s', U' ≤ 400 → Ri B w0 R q cap P s0 U' wx O' s' → (fun w' : World => w'.cell? ⟨R, 9, none⟩ = some (ptr P.a) ∧ w'.rangeAt X 0 s0.sh) wx from fun U' wx O' s' hu h => ⟨h.sys.rg.rig.cell 9, hB wx O' s' ⟨h.sys, h.calm, h.same, by have := h.u; omega⟩⟩)
  clear hR hQ hB hbi hP
  conv => arg 2; whnf
  have S0 : (fun w' : World => w'.cell? ⟨R, 9, none⟩ = some (ptr P.a) ∧ w'.rangeAt X 0 s0.sh) w.drew := MO.out U _ _ _ (by omega) YY.out.drew
  refine wp_region_early (fun w' : World => w'.cell? ⟨R, 9, none⟩ = some (ptr P.a) ∧ w'.rangeAt X 0 s0.sh) (fun _ => true) (by kernel_rfl) ?_
  change wpEarly _ _ _ _ _ _ 34 (Array.replicate 34 false) _ w.drew
  refine early_take (i := 0) 141 (.int .i64 1) rfl rfl (by kernel_rfl) (by kernel_rfl) (by kernel_rfl) (by kernel_rfl) rfl (fun c a w h => HP.out _ _ c a w h) (fun w' hw' => by go_simp) S0 ?_
  simp only [Act.put, List.setIfInBounds_toArray, List.set_cons_zero, List.set_cons_succ]
  refine early_take (i := 1) 142 (.bool true) rfl rfl (by kernel_rfl) (by kernel_rfl) (by kernel_rfl) (by kernel_rfl) rfl (fun c a w h => HP.out _ _ c a w h) (fun w' hw' => by go_simp) S0 ?_
  simp only [Act.put, List.setIfInBounds_toArray, List.set_cons_zero, List.set_cons_succ]
  refine early_take (i := 2) 143 (.bool false) rfl rfl (by kernel_rfl) (by kernel_rfl) (by kernel_rfl) (by kernel_rfl) rfl (fun c a w h => HP.out _ _ c a w h) (fun w' hw' => by go_simp) S0 ?_
  simp only [Act.put, List.setIfInBounds_toArray, List.set_cons_zero, List.set_cons_succ]
  refine early_take (i := 3) 144 (.bool false) rfl rfl (by kernel_rfl) (by kernel_rfl) (by kernel_rfl) (by kernel_rfl) rfl (fun c a w h => HP.out _ _ c a w h) (fun w' hw' => by go_simp) S0 ?_
  simp only [Act.put, List.setIfInBounds_toArray, List.set_cons_zero, List.set_cons_succ]
  refine early_take (i := 4) 145 (.bool false) rfl rfl (by kernel_rfl) (by kernel_rfl) (by kernel_rfl) (by kernel_rfl) rfl (fun c a w h => HP.out _ _ c a w h) (fun w' hw' => by go_simp) S0 ?_
  simp only [Act.put, List.setIfInBounds_toArray, List.set_cons_zero, List.set_cons_succ]
  refine early_take (i := 5) 146 (ptr R) rfl rfl (by kernel_rfl) (by kernel_rfl) (by kernel_rfl) (by kernel_rfl) rfl (fun c a w h => HP.out _ _ c a w h) (fun w' hw' => by go_simp) S0 ?_
  simp only [Act.put, List.setIfInBounds_toArray, List.set_cons_zero, List.set_cons_succ]
  refine early_take (i := 6) 147 (ptr R) rfl rfl (by kernel_rfl) (by kernel_rfl) (by kernel_rfl) (by kernel_rfl) rfl (fun c a w h => HP.out _ _ c a w h) (fun w' hw' => by go_simp) S0 ?_
  simp only [Act.put, List.setIfInBounds_toArray, List.set_cons_zero, List.set_cons_succ]
  refine early_take (i := 7) 148 (.pointer (some ⟨R, 9, none⟩)) rfl rfl (by kernel_rfl) (by kernel_rfl) (by kernel_rfl) (by kernel_rfl) rfl (fun c a w h => HP.out _ _ c a w h) (fun w' hw' => by go_simp) S0 ?_
  simp only [Act.put, List.setIfInBounds_toArray, List.set_cons_zero, List.set_cons_succ]
  refine early_take (i := 8) 149 (ptr P.a) rfl rfl (by kernel_rfl) (by kernel_rfl) (by kernel_rfl) (by kernel_rfl) rfl (fun c a w h => HP.out _ _ c a w h) (fun w' hw' => by obtain ⟨k1, k2⟩ := hw'; go_simp) S0 ?_
  simp only [Act.put, List.setIfInBounds_toArray, List.set_cons_zero, List.set_cons_succ]
  refine early_take (i := 9) 150 (.int .i64 i) rfl rfl (by kernel_rfl) (by kernel_rfl) (by kernel_rfl) (by kernel_rfl) rfl (fun c a w h => HP.out _ _ c a w h) (fun w' hw' => by go_simp) S0 ?_
  simp only [Act.put, List.setIfInBounds_toArray, List.set_cons_zero, List.set_cons_succ]
  refine early_take (i := 10) 151 (sv (s0.M : Int) s0.b s0.g s0.s s0.n s0.l) rfl rfl (by kernel_rfl) (by kernel_rfl) (by kernel_rfl) (by kernel_rfl) rfl (fun c a w h => HP.out _ _ c a w h) (fun w' hw' => exec_shape (s := s0) (x := .tmp 15) rfl rfl hw'.2) S0 ?_
  simp only [Act.put, List.setIfInBounds_toArray, List.set_cons_zero, List.set_cons_succ]
  refine early_take (i := 14) 155 (.bool false) rfl rfl (by kernel_rfl) (by kernel_rfl) (by kernel_rfl) (by kernel_rfl) rfl (fun c a w h => HP.out _ _ c a w h) (fun w' hw' => by go_simp) S0 ?_
  simp only [Act.put, List.setIfInBounds_toArray, List.set_cons_zero, List.set_cons_succ]
  refine early_only (i := 11) (by kernel_rfl) rfl (fun K hK => ?_)
  simp only [opWp, List.getElem?_toArray, List.getElem?_cons_succ, List.getElem?_cons_zero]
  go_simp
  go_at_call 28
  refine (Block_any (s0.M : Int) s0.b s0.g s0.s s0.n s0.l s0.b.toNat (by omega) (by omega) 1#8 _ rfl w.drew).mono ?_
  rintro e w5 ⟨bb, rfl, hown, hb⟩
  obtain ⟨hh, _, ha⟩ := own_slice hown
  have H5 := Lib.hid hh
  have HA := Lib.hid (show ∀ x, (some ⟨bb, 0, none⟩ : Option Addr) = some x → ¬ O x.block from fun x hx => (YY.out.drew.sys.new _ (ha x hx).1).1)
  have Y5 := Lib.hid (YY.out.drew.up hb)
  have S5 : (fun w' : World => w'.cell? ⟨R, 9, none⟩ = some (ptr P.a) ∧ w'.rangeAt X 0 s0.sh) w5 := MO.out U _ _ _ (by omega) Y5.out
  clear hown hb hh ha
  refine hK _ _ (fun _ => S5) ?_
  refine early_only (i := 12) (by kernel_rfl) rfl (fun K hK => ?_)
  simp only [opWp, List.getElem?_toArray, List.getElem?_cons_succ, List.getElem?_cons_zero]
  go_simp
  go_at_call 27
  refine (putSame_ri i (some ⟨bb, 0, none⟩) s0.b.toNat s0.b.toNat _ (by omega) (by omega) H5.out HA.out Y5.out (by omega)).mono ?_
  rintro e w6 ⟨rfl, O6, s6, hR, hO, hB⟩
  have Y6 := Lib.hid hR
  have S6 : (fun w' : World => w'.cell? ⟨R, 9, none⟩ = some (ptr P.a) ∧ w'.rangeAt X 0 s0.sh) w6 := MO.out (U + 20) _ _ _ (by omega) hR
  rw [BI.out, show no false = 1 from rfl]
  clear hR hO hB
  refine hK _ _ (fun _ => S6) ?_
  refine early_take (i := 13) 154 (.bool true) rfl rfl (by kernel_rfl) (by kernel_rfl) (by kernel_rfl) (by kernel_rfl) rfl (fun c a w h => HP.out _ _ c a w h) (fun w' hw' => by go_simp) S6 ?_
  simp only [Act.put, List.setIfInBounds_toArray, List.set_cons_zero, List.set_cons_succ]
  refine early_take (i := 15) 156 (.bool false) rfl rfl (by kernel_rfl) (by kernel_rfl) (by kernel_rfl) (by kernel_rfl) rfl (fun c a w h => HP.out _ _ c a w h) (fun w' hw' => by go_simp) S6 ?_
  simp only [Act.put, List.setIfInBounds_toArray, List.set_cons_zero, List.set_cons_succ]
  refine early_take (i := 16) 157 (.bool false) rfl rfl (by kernel_rfl) (by kernel_rfl) (by kernel_rfl) (by kernel_rfl) rfl (fun c a w h => HP.out _ _ c a w h) (fun w' hw' => by go_simp) S6 ?_
  simp only [Act.put, List.setIfInBounds_toArray, List.set_cons_zero, List.set_cons_succ]
  refine early_take (i := 17) 158 (.bool false) rfl rfl (by kernel_rfl) (by kernel_rfl) (by kernel_rfl) (by kernel_rfl) rfl (fun c a w h => HP.out _ _ c a w h) (fun w' hw' => by go_simp) S6 ?_
  simp only [Act.put, List.setIfInBounds_toArray, List.set_cons_zero, List.set_cons_succ]
  refine early_take (i := 18) 159 (ptr R) rfl rfl (by kernel_rfl) (by kernel_rfl) (by kernel_rfl) (by kernel_rfl) rfl (fun c a w h => HP.out _ _ c a w h) (fun w' hw' => by go_simp) S6 ?_
  simp only [Act.put, List.setIfInBounds_toArray, List.set_cons_zero, List.set_cons_succ]
  refine early_take (i := 19) 160 (ptr R) rfl rfl (by kernel_rfl) (by kernel_rfl) (by kernel_rfl) (by kernel_rfl) rfl (fun c a w h => HP.out _ _ c a w h) (fun w' hw' => by go_simp) S6 ?_
  simp only [Act.put, List.setIfInBounds_toArray, List.set_cons_zero, List.set_cons_succ]
  refine early_take (i := 20) 161 (.pointer (some ⟨R, 9, none⟩)) rfl rfl (by kernel_rfl) (by kernel_rfl) (by kernel_rfl) (by kernel_rfl) rfl (fun c a w h => HP.out _ _ c a w h) (fun w' hw' => by go_simp) S6 ?_
  simp only [Act.put, List.setIfInBounds_toArray, List.set_cons_zero, List.set_cons_succ]
  refine early_take (i := 21) 162 (ptr P.a) rfl rfl (by kernel_rfl) (by kernel_rfl) (by kernel_rfl) (by kernel_rfl) rfl (fun c a w h => HP.out _ _ c a w h) (fun w' hw' => by obtain ⟨k1, k2⟩ := hw'; go_simp) S6 ?_
  simp only [Act.put, List.setIfInBounds_toArray, List.set_cons_zero, List.set_cons_succ]
  refine early_take (i := 22) 163 (.int .i64 i) rfl rfl (by kernel_rfl) (by kernel_rfl) (by kernel_rfl) (by kernel_rfl) rfl (fun c a w h => HP.out _ _ c a w h) (fun w' hw' => by go_simp) S6 ?_
  simp only [Act.put, List.setIfInBounds_toArray, List.set_cons_zero, List.set_cons_succ]
  refine early_only (i := 23) (by kernel_rfl) rfl (fun K hK => ?_)
  simp only [opWp, List.getElem?_toArray, List.getElem?_cons_succ, List.getElem?_cons_zero]
  go_simp
  go_at_call 27
  refine (putSame_nil i Y6.out (by omega) (by omega)).mono ?_
  rintro e w7 ⟨rfl, O7, s7, hR, hO, hB⟩
  have Y7 := Lib.hid hR
  have S7 : (fun w' : World => w'.cell? ⟨R, 9, none⟩ = some (ptr P.a) ∧ w'.rangeAt X 0 s0.sh) w7 := MO.out (U + 20 + 20) _ _ _ (by omega) hR
  clear hR hO hB
  refine hK _ _ (fun _ => S7) ?_
  refine early_take (i := 24) 165 (.bool false) rfl rfl (by kernel_rfl) (by kernel_rfl) (by kernel_rfl) (by kernel_rfl) rfl (fun c a w h => HP.out _ _ c a w h) (fun w' hw' => by go_simp) S7 ?_
  simp only [Act.put, List.setIfInBounds_toArray, List.set_cons_zero, List.set_cons_succ]
  refine early_take (i := 25) 166 (.bool false) rfl rfl (by kernel_rfl) (by kernel_rfl) (by kernel_rfl) (by kernel_rfl) rfl (fun c a w h => HP.out _ _ c a w h) (fun w' hw' => by go_simp) S7 ?_
  simp only [Act.put, List.setIfInBounds_toArray, List.set_cons_zero, List.set_cons_succ]
  refine early_take (i := 26) 167 (.bool false) rfl rfl (by kernel_rfl) (by kernel_rfl) (by kernel_rfl) (by kernel_rfl) rfl (fun c a w h => HP.out _ _ c a w h) (fun w' hw' => by go_simp) S7 ?_
  simp only [Act.put, List.setIfInBounds_toArray, List.set_cons_zero, List.set_cons_succ]
  refine early_take (i := 27) 168 (ptr R) rfl rfl (by kernel_rfl) (by kernel_rfl) (by kernel_rfl) (by kernel_rfl) rfl (fun c a w h => HP.out _ _ c a w h) (fun w' hw' => by go_simp) S7 ?_
  simp only [Act.put, List.setIfInBounds_toArray, List.set_cons_zero, List.set_cons_succ]
  refine early_take (i := 28) 169 (ptr R) rfl rfl (by kernel_rfl) (by kernel_rfl) (by kernel_rfl) (by kernel_rfl) rfl (fun c a w h => HP.out _ _ c a w h) (fun w' hw' => by go_simp) S7 ?_
  simp only [Act.put, List.setIfInBounds_toArray, List.set_cons_zero, List.set_cons_succ]
  refine early_take (i := 29) 170 (.pointer (some ⟨R, 9, none⟩)) rfl rfl (by kernel_rfl) (by kernel_rfl) (by kernel_rfl) (by kernel_rfl) rfl (fun c a w h => HP.out _ _ c a w h) (fun w' hw' => by go_simp) S7 ?_
  simp only [Act.put, List.setIfInBounds_toArray, List.set_cons_zero, List.set_cons_succ]
  refine early_take (i := 30) 171 (ptr P.a) rfl rfl (by kernel_rfl) (by kernel_rfl) (by kernel_rfl) (by kernel_rfl) rfl (fun c a w h => HP.out _ _ c a w h) (fun w' hw' => by obtain ⟨k1, k2⟩ := hw'; go_simp) S7 ?_
  simp only [Act.put, List.setIfInBounds_toArray, List.set_cons_zero, List.set_cons_succ]
  refine early_only (i := 31) (by kernel_rfl) rfl (fun K hK => ?_)
  simp only [opWp, List.getElem?_toArray, List.getElem?_cons_succ, List.getElem?_cons_zero]
  go_simp
  go_at_call 29
  refine (finish_nil Y7.out (by omega)).mono ?_
  rintro e w8 ⟨rfl, O8, s8, hR, hO, hB⟩
  have Y8 := Lib.hid hR
  have S8 : (fun w' : World => w'.cell? ⟨R, 9, none⟩ = some (ptr P.a) ∧ w'.rangeAt X 0 s0.sh) w8 := MO.out (U + 20 + 20 + 20) _ _ _ (by omega) hR
  clear hR hO hB
  refine hK _ _ (fun _ => S8) ?_
  refine early_take (i := 32) 173 (.bool false) rfl rfl (by kernel_rfl) (by kernel_rfl) (by kernel_rfl) (by kernel_rfl) rfl (fun c a w h => HP.out _ _ c a w h) (fun w' hw' => by go_simp) S8 ?_
  simp only [Act.put, List.setIfInBounds_toArray, List.set_cons_zero, List.set_cons_succ]
  refine early_take (i := 33) 174 (.bool false) rfl rfl (by kernel_rfl) (by kernel_rfl) (by kernel_rfl) (by kernel_rfl) rfl (fun c a w h => HP.out _ _ c a w h) (fun w' hw' => by go_simp) S8 ?_
  simp only [Act.put, List.setIfInBounds_toArray, List.set_cons_zero, List.set_cons_succ]
  refine early_done (by kernel_rfl) ?_
  exact HQ.out w8 O8 s8 _ _ _ _ _ _ _ _ _ _ _ _ _ _ _ _ _ _ _ _ _ _ _ _ _ _ _ _ _ _ _ _ _ Y8.out

set_option maxRecDepth 1000000 in
set_option maxHeartbeats 3200000 in
theorem r18_true {B : Nat} {w0 w : World} {R q cap : Nat} {P : Pl} {O : Nat → Prop} {s0 s : AS} {U : Int} {X : Nat} (i : Int) (hR : Ri B w0 R q cap P s0 U w O s) (hU : U ≤ 300) (hB : ∀ wx O' s', Ri B w0 R q cap P s0 400 wx O' s' → wx.rangeAt X 0 s0.sh) (hb48 : 32 ≤ s0.b ∧ s0.b ≤ 48) (hbi : decide (0 ≤ i ∧ i < (s0.S : Int)) = true)
    (c0 c1 c2 c3 c5 c6 c7 c8 c9 c10 c11 c12 c13 c14 c17 c18 c19 c20 c21 c22 c25 c26 c27 c28 c29 c30 c31 c32 c33 c34 c35 c36 c37 c38 c39 c40 c41 c42 c43 c44 c45 c46 c47 c48 c49 c50 c51 c52 c53 c54 c55 c56 c57 c58 c59 c60 c61 c62 c63 c64 c65 c66 c67 c68 c69 c70 c71 c72 c73 c74 c75 c76 c77 c78 c79 c80 c81 c82 c83 c84 c85 c86 c87 c88 c89 c90 c91 c92 c93 c94 c95 c96 c97 c98 c99 c100 c101 c102 c103 c104 c105 c106 c107 c108 c109 c110 c111 c112 c113 c114 c115 c116 c117 c118 c119 c120 c121 c122 c123 c124 c125 c126 c127 c128 c129 c130 c131 c132 c133 c134 c135 c136 c137 c138 c139 c140 c141 c142 c143 c144 c145 c146 c147 c148 c149 c150 c151 c152 c153 c154 c155 c156 c157 c158 c159 c160 c161 c162 c163 c164 c165 c166 c167 c168 c169 c170 c171 c172 c173 c174 c175 c176 c177 c178 c179 c180 c181 c182 c183 c184 c185 c186 c187 c188 c189 c190 c191 c192 c193 c194 c195 c196 c197 c198 c199 c200 c201 c202 c203 c204 c205 c206 c207 c208 c209 c210 c211 c212 c213 c214 c215 c216 c217 c218 c219 c220 c221 c222 c223 c224 c225 c226 c227 c228 c229 c230 c231 c232 c233 c234 c235 c236 c237 c238 c239 c240 c241 c242 c243 c244 c245 c246 c247 c248 c249 c250 c251 c252 c253 : Value) (Q : Exit → Act → World → Prop) (hP : ∀ t v c a w, Q (.panic c) (a.put (some t) v) w → Q (.panic c) a w) (hQ : ∀ w' O' s' (d141 d142 d143 d144 d145 d146 d147 d148 d149 d150 d151 d152 d153 d154 d155 d156 d157 d158 d159 d160 d161 d162 d163 d164 d165 d166 d167 d168 d169 d170 d171 d172 d173 : Value), Ri B w0 R q cap P s0 (U + 20 + 20 + 20) w' O' s' → Q .normal ⟨#[c0, c1, c2, c3, .int .i64 i, c5, c6, c7, c8, c9, c10, c11, c12, c13, c14, .pointer (some ⟨X, 0, none⟩), ptr R, c17, c18, c19, c20, c21, c22, .int .i64 0, .bool true, c25, c26, c27, c28, c29, c30, c31, c32, c33, c34, c35, c36, c37, c38, c39, c40, c41, c42, c43, c44, c45, c46, c47, c48, c49, c50, c51, c52, c53, c54, c55, c56, c57, c58, c59, c60, c61, c62, c63, c64, c65, c66, c67, c68, c69, c70, c71, c72, c73, c74, c75, c76, c77, c78, c79, c80, c81, c82, c83, c84, c85, c86, c87, c88, c89, c90, c91, c92, c93, c94, c95, c96, c97, c98, c99, c100, c101, c102, c103, c104, c105, c106, c107, c108, c109, c110, c111, c112, c113, c114, c115, c116, c117, c118, c119, c120, c121, c122, c123, c124, c125, c126, c127, c128, c129, c130, c131, c132, c133, c134, c135, c136, c137, c138, c139, c140, d141, d142, d143, d144, d145, d146, d147, d148, d149, d150, d151, d152, d153, d154, d155, d156, d157, d158, d159, d160, d161, d162, d163, d164, d165, d166, d167, d168, d169, d170, d171, d172, d173, .bool false, c175, c176, c177, c178, c179, c180, c181, c182, c183, c184, c185, c186, c187, c188, c189, c190, c191, c192, c193, c194, c195, c196, c197, c198, c199, c200, c201, c202, c203, c204, c205, c206, c207, c208, c209, c210, c211, c212, c213, c214, c215, c216, c217, c218, c219, c220, c221, c222, c223, c224, c225, c226, c227, c228, c229, c230, c231, c232, c233, c234, c235, c236, c237, c238, c239, c240, c241, c242, c243, c244, c245, c246, c247, c248, c249, c250, c251, c252, c253], []⟩ w') : Code.wp Try.prog reg18 Q ⟨#[c0, c1, c2, c3, .int .i64 i, c5, c6, c7, c8, c9, c10, c11, c12, c13, c14, .pointer (some ⟨X, 0, none⟩), ptr R, c17, c18, c19, c20, c21, c22, .int .i64 0, .bool true, c25, c26, c27, c28, c29, c30, c31, c32, c33, c34, c35, c36, c37, c38, c39, c40, c41, c42, c43, c44, c45, c46, c47, c48, c49, c50, c51, c52, c53, c54, c55, c56, c57, c58, c59, c60, c61, c62, c63, c64, c65, c66, c67, c68, c69, c70, c71, c72, c73, c74, c75, c76, c77, c78, c79, c80, c81, c82, c83, c84, c85, c86, c87, c88, c89, c90, c91, c92, c93, c94, c95, c96, c97, c98, c99, c100, c101, c102, c103, c104, c105, c106, c107, c108, c109, c110, c111, c112, c113, c114, c115, c116, c117, c118, c119, c120, c121, c122, c123, c124, c125, c126, c127, c128, c129, c130, c131, c132, c133, c134, c135, c136, c137, c138, c139, c140, c141, c142, c143, c144, c145, c146, c147, c148, c149, c150, c151, c152, c153, c154, c155, c156, c157, c158, c159, c160, c161, c162, c163, c164, c165, c166, c167, c168, c169, c170, c171, c172, c173, c174, c175, c176, c177, c178, c179, c180, c181, c182, c183, c184, c185, c186, c187, c188, c189, c190, c191, c192, c193, c194, c195, c196, c197, c198, c199, c200, c201, c202, c203, c204, c205, c206, c207, c208, c209, c210, c211, c212, c213, c214, c215, c216, c217, c218, c219, c220, c221, c222, c223, c224, c225, c226, c227, c228, c229, c230, c231, c232, c233, c234, c235, c236, c237, c238, c239, c240, c241, c242, c243, c244, c245, c246, c247, c248, c249, c250, c251, c252, c253], []⟩ w := by
  have YY := Lib.hid hR
  have HQ := Lib.hid hQ
  have HP := Lib.hid hP
  have BX := Lib.hid hB
  have BI := Lib.hid hbi
  have MO := Lib.hid (show ∀ U' wx O' s', U' ≤ 400 → Ri B w0 R q cap P s0 U' wx O' s' → (fun w' : World => w'.cell? ⟨R, 9, none⟩ = some (ptr P.a) ∧ w'.rangeAt X 0 s0.sh) wx from fun U' wx O' s' hu h => ⟨h.sys.rg.rig.cell 9, hB wx O' s' ⟨h.sys, h.calm, h.same, by have := h.u; omega⟩⟩)
  clear hR hQ hB hbi hP
  conv => arg 2; whnf
  have S0 : (fun w' : World => w'.cell? ⟨R, 9, none⟩ = some (ptr P.a) ∧ w'.rangeAt X 0 s0.sh) w.drew := MO.out U _ _ _ (by omega) YY.out.drew
  refine wp_region_early (fun w' : World => w'.cell? ⟨R, 9, none⟩ = some (ptr P.a) ∧ w'.rangeAt X 0 s0.sh) (fun _ => true) (by kernel_rfl) ?_
  change wpEarly _ _ _ _ _ _ 34 (Array.replicate 34 false) _ w.drew
  refine early_take (i := 0) 141 (.int .i64 0) rfl rfl (by kernel_rfl) (by kernel_rfl) (by kernel_rfl) (by kernel_rfl) rfl (fun c a w h => HP.out _ _ c a w h) (fun w' hw' => by go_simp) S0 ?_
  simp only [Act.put, List.setIfInBounds_toArray, List.set_cons_zero, List.set_cons_succ]
  refine early_take (i := 1) 142 (.bool false) rfl rfl (by kernel_rfl) (by kernel_rfl) (by kernel_rfl) (by kernel_rfl) rfl (fun c a w h => HP.out _ _ c a w h) (fun w' hw' => by go_simp) S0 ?_
  simp only [Act.put, List.setIfInBounds_toArray, List.set_cons_zero, List.set_cons_succ]
  refine early_take (i := 2) 143 (.bool true) rfl rfl (by kernel_rfl) (by kernel_rfl) (by kernel_rfl) (by kernel_rfl) rfl (fun c a w h => HP.out _ _ c a w h) (fun w' hw' => by go_simp) S0 ?_
  simp only [Act.put, List.setIfInBounds_toArray, List.set_cons_zero, List.set_cons_succ]
  refine early_take (i := 3) 144 (.bool false) rfl rfl (by kernel_rfl) (by kernel_rfl) (by kernel_rfl) (by kernel_rfl) rfl (fun c a w h => HP.out _ _ c a w h) (fun w' hw' => by go_simp) S0 ?_
  simp only [Act.put, List.setIfInBounds_toArray, List.set_cons_zero, List.set_cons_succ]
  refine early_take (i := 4) 145 (.bool false) rfl rfl (by kernel_rfl) (by kernel_rfl) (by kernel_rfl) (by kernel_rfl) rfl (fun c a w h => HP.out _ _ c a w h) (fun w' hw' => by go_simp) S0 ?_
  simp only [Act.put, List.setIfInBounds_toArray, List.set_cons_zero, List.set_cons_succ]
  refine early_take (i := 5) 146 (ptr R) rfl rfl (by kernel_rfl) (by kernel_rfl) (by kernel_rfl) (by kernel_rfl) rfl (fun c a w h => HP.out _ _ c a w h) (fun w' hw' => by go_simp) S0 ?_
  simp only [Act.put, List.setIfInBounds_toArray, List.set_cons_zero, List.set_cons_succ]
  refine early_take (i := 6) 147 (ptr R) rfl rfl (by kernel_rfl) (by kernel_rfl) (by kernel_rfl) (by kernel_rfl) rfl (fun c a w h => HP.out _ _ c a w h) (fun w' hw' => by go_simp) S0 ?_
  simp only [Act.put, List.setIfInBounds_toArray, List.set_cons_zero, List.set_cons_succ]
  refine early_take (i := 7) 148 (.pointer (some ⟨R, 9, none⟩)) rfl rfl (by kernel_rfl) (by kernel_rfl) (by kernel_rfl) (by kernel_rfl) rfl (fun c a w h => HP.out _ _ c a w h) (fun w' hw' => by go_simp) S0 ?_
  simp only [Act.put, List.setIfInBounds_toArray, List.set_cons_zero, List.set_cons_succ]
  refine early_take (i := 8) 149 (ptr P.a) rfl rfl (by kernel_rfl) (by kernel_rfl) (by kernel_rfl) (by kernel_rfl) rfl (fun c a w h => HP.out _ _ c a w h) (fun w' hw' => by obtain ⟨k1, k2⟩ := hw'; go_simp) S0 ?_
  simp only [Act.put, List.setIfInBounds_toArray, List.set_cons_zero, List.set_cons_succ]
  refine early_take (i := 9) 150 (.int .i64 i) rfl rfl (by kernel_rfl) (by kernel_rfl) (by kernel_rfl) (by kernel_rfl) rfl (fun c a w h => HP.out _ _ c a w h) (fun w' hw' => by go_simp) S0 ?_
  simp only [Act.put, List.setIfInBounds_toArray, List.set_cons_zero, List.set_cons_succ]
  refine early_take (i := 10) 151 (sv (s0.M : Int) s0.b s0.g s0.s s0.n s0.l) rfl rfl (by kernel_rfl) (by kernel_rfl) (by kernel_rfl) (by kernel_rfl) rfl (fun c a w h => HP.out _ _ c a w h) (fun w' hw' => exec_shape (s := s0) (x := .tmp 15) rfl rfl hw'.2) S0 ?_
  simp only [Act.put, List.setIfInBounds_toArray, List.set_cons_zero, List.set_cons_succ]
  refine early_take (i := 14) 155 (.bool true) rfl rfl (by kernel_rfl) (by kernel_rfl) (by kernel_rfl) (by kernel_rfl) rfl (fun c a w h => HP.out _ _ c a w h) (fun w' hw' => by go_simp) S0 ?_
  simp only [Act.put, List.setIfInBounds_toArray, List.set_cons_zero, List.set_cons_succ]
  refine early_only (i := 11) (by kernel_rfl) rfl (fun K hK => ?_)
  simp only [opWp, List.getElem?_toArray, List.getElem?_cons_succ, List.getElem?_cons_zero]
  go_simp
  go_at_call 28
  refine (Block_any (s0.M : Int) s0.b s0.g s0.s s0.n s0.l s0.b.toNat (by omega) (by omega) 1#8 _ rfl w.drew).mono ?_
  rintro e w5 ⟨bb, rfl, hown, hb⟩
  obtain ⟨hh, _, ha⟩ := own_slice hown
  have H5 := Lib.hid hh
  have HA := Lib.hid (show ∀ x, (some ⟨bb, 0, none⟩ : Option Addr) = some x → ¬ O x.block from fun x hx => (YY.out.drew.sys.new _ (ha x hx).1).1)
  have Y5 := Lib.hid (YY.out.drew.up hb)
  have S5 : (fun w' : World => w'.cell? ⟨R, 9, none⟩ = some (ptr P.a) ∧ w'.rangeAt X 0 s0.sh) w5 := MO.out U _ _ _ (by omega) Y5.out
  clear hown hb hh ha
  refine hK _ _ (fun _ => S5) ?_
  refine early_only (i := 12) (by kernel_rfl) rfl (fun K hK => ?_)
  simp only [opWp, List.getElem?_toArray, List.getElem?_cons_succ, List.getElem?_cons_zero]
  go_simp
  go_at_call 27
  refine (putSame_ri i (some ⟨bb, 0, none⟩) s0.b.toNat s0.b.toNat _ (by omega) (by omega) H5.out HA.out Y5.out (by omega)).mono ?_
  rintro e w6 ⟨rfl, O6, s6, hR, hO, hB⟩
  have Y6 := Lib.hid hR
  have S6 : (fun w' : World => w'.cell? ⟨R, 9, none⟩ = some (ptr P.a) ∧ w'.rangeAt X 0 s0.sh) w6 := MO.out (U + 20) _ _ _ (by omega) hR
  rw [BI.out, show no true = 0 from rfl]
  clear hR hO hB
  refine hK _ _ (fun _ => S6) ?_
  refine early_take (i := 13) 154 (.bool false) rfl rfl (by kernel_rfl) (by kernel_rfl) (by kernel_rfl) (by kernel_rfl) rfl (fun c a w h => HP.out _ _ c a w h) (fun w' hw' => by go_simp) S6 ?_
  simp only [Act.put, List.setIfInBounds_toArray, List.set_cons_zero, List.set_cons_succ]
  refine early_take (i := 15) 156 (.bool false) rfl rfl (by kernel_rfl) (by kernel_rfl) (by kernel_rfl) (by kernel_rfl) rfl (fun c a w h => HP.out _ _ c a w h) (fun w' hw' => by go_simp) S6 ?_
  simp only [Act.put, List.setIfInBounds_toArray, List.set_cons_zero, List.set_cons_succ]
  refine early_take (i := 16) 157 (.bool false) rfl rfl (by kernel_rfl) (by kernel_rfl) (by kernel_rfl) (by kernel_rfl) rfl (fun c a w h => HP.out _ _ c a w h) (fun w' hw' => by go_simp) S6 ?_
  simp only [Act.put, List.setIfInBounds_toArray, List.set_cons_zero, List.set_cons_succ]
  refine early_take (i := 17) 158 (.bool false) rfl rfl (by kernel_rfl) (by kernel_rfl) (by kernel_rfl) (by kernel_rfl) rfl (fun c a w h => HP.out _ _ c a w h) (fun w' hw' => by go_simp) S6 ?_
  simp only [Act.put, List.setIfInBounds_toArray, List.set_cons_zero, List.set_cons_succ]
  refine early_take (i := 18) 159 (ptr R) rfl rfl (by kernel_rfl) (by kernel_rfl) (by kernel_rfl) (by kernel_rfl) rfl (fun c a w h => HP.out _ _ c a w h) (fun w' hw' => by go_simp) S6 ?_
  simp only [Act.put, List.setIfInBounds_toArray, List.set_cons_zero, List.set_cons_succ]
  refine early_take (i := 19) 160 (ptr R) rfl rfl (by kernel_rfl) (by kernel_rfl) (by kernel_rfl) (by kernel_rfl) rfl (fun c a w h => HP.out _ _ c a w h) (fun w' hw' => by go_simp) S6 ?_
  simp only [Act.put, List.setIfInBounds_toArray, List.set_cons_zero, List.set_cons_succ]
  refine early_take (i := 20) 161 (.pointer (some ⟨R, 9, none⟩)) rfl rfl (by kernel_rfl) (by kernel_rfl) (by kernel_rfl) (by kernel_rfl) rfl (fun c a w h => HP.out _ _ c a w h) (fun w' hw' => by go_simp) S6 ?_
  simp only [Act.put, List.setIfInBounds_toArray, List.set_cons_zero, List.set_cons_succ]
  refine early_take (i := 21) 162 (ptr P.a) rfl rfl (by kernel_rfl) (by kernel_rfl) (by kernel_rfl) (by kernel_rfl) rfl (fun c a w h => HP.out _ _ c a w h) (fun w' hw' => by obtain ⟨k1, k2⟩ := hw'; go_simp) S6 ?_
  simp only [Act.put, List.setIfInBounds_toArray, List.set_cons_zero, List.set_cons_succ]
  refine early_take (i := 22) 163 (.int .i64 i) rfl rfl (by kernel_rfl) (by kernel_rfl) (by kernel_rfl) (by kernel_rfl) rfl (fun c a w h => HP.out _ _ c a w h) (fun w' hw' => by go_simp) S6 ?_
  simp only [Act.put, List.setIfInBounds_toArray, List.set_cons_zero, List.set_cons_succ]
  refine early_only (i := 23) (by kernel_rfl) rfl (fun K hK => ?_)
  simp only [opWp, List.getElem?_toArray, List.getElem?_cons_succ, List.getElem?_cons_zero]
  go_simp
  go_at_call 27
  refine (putSame_nil i Y6.out (by omega) (by omega)).mono ?_
  rintro e w7 ⟨rfl, O7, s7, hR, hO, hB⟩
  have Y7 := Lib.hid hR
  have S7 : (fun w' : World => w'.cell? ⟨R, 9, none⟩ = some (ptr P.a) ∧ w'.rangeAt X 0 s0.sh) w7 := MO.out (U + 20 + 20) _ _ _ (by omega) hR
  clear hR hO hB
  refine hK _ _ (fun _ => S7) ?_
  refine early_take (i := 24) 165 (.bool false) rfl rfl (by kernel_rfl) (by kernel_rfl) (by kernel_rfl) (by kernel_rfl) rfl (fun c a w h => HP.out _ _ c a w h) (fun w' hw' => by go_simp) S7 ?_
  simp only [Act.put, List.setIfInBounds_toArray, List.set_cons_zero, List.set_cons_succ]
  refine early_take (i := 25) 166 (.bool false) rfl rfl (by kernel_rfl) (by kernel_rfl) (by kernel_rfl) (by kernel_rfl) rfl (fun c a w h => HP.out _ _ c a w h) (fun w' hw' => by go_simp) S7 ?_
  simp only [Act.put, List.setIfInBounds_toArray, List.set_cons_zero, List.set_cons_succ]
  refine early_take (i := 26) 167 (.bool false) rfl rfl (by kernel_rfl) (by kernel_rfl) (by kernel_rfl) (by kernel_rfl) rfl (fun c a w h => HP.out _ _ c a w h) (fun w' hw' => by go_simp) S7 ?_
  simp only [Act.put, List.setIfInBounds_toArray, List.set_cons_zero, List.set_cons_succ]
  refine early_take (i := 27) 168 (ptr R) rfl rfl (by kernel_rfl) (by kernel_rfl) (by kernel_rfl) (by kernel_rfl) rfl (fun c a w h => HP.out _ _ c a w h) (fun w' hw' => by go_simp) S7 ?_
  simp only [Act.put, List.setIfInBounds_toArray, List.set_cons_zero, List.set_cons_succ]
  refine early_take (i := 28) 169 (ptr R) rfl rfl (by kernel_rfl) (by kernel_rfl) (by kernel_rfl) (by kernel_rfl) rfl (fun c a w h => HP.out _ _ c a w h) (fun w' hw' => by go_simp) S7 ?_
  simp only [Act.put, List.setIfInBounds_toArray, List.set_cons_zero, List.set_cons_succ]
  refine early_take (i := 29) 170 (.pointer (some ⟨R, 9, none⟩)) rfl rfl (by kernel_rfl) (by kernel_rfl) (by kernel_rfl) (by kernel_rfl) rfl (fun c a w h => HP.out _ _ c a w h) (fun w' hw' => by go_simp) S7 ?_
  simp only [Act.put, List.setIfInBounds_toArray, List.set_cons_zero, List.set_cons_succ]
  refine early_take (i := 30) 171 (ptr P.a) rfl rfl (by kernel_rfl) (by kernel_rfl) (by kernel_rfl) (by kernel_rfl) rfl (fun c a w h => HP.out _ _ c a w h) (fun w' hw' => by obtain ⟨k1, k2⟩ := hw'; go_simp) S7 ?_
  simp only [Act.put, List.setIfInBounds_toArray, List.set_cons_zero, List.set_cons_succ]
  refine early_only (i := 31) (by kernel_rfl) rfl (fun K hK => ?_)
  simp only [opWp, List.getElem?_toArray, List.getElem?_cons_succ, List.getElem?_cons_zero]
  go_simp
  go_at_call 29
  refine (finish_nil Y7.out (by omega)).mono ?_
  rintro e w8 ⟨rfl, O8, s8, hR, hO, hB⟩
  have Y8 := Lib.hid hR
  have S8 : (fun w' : World => w'.cell? ⟨R, 9, none⟩ = some (ptr P.a) ∧ w'.rangeAt X 0 s0.sh) w8 := MO.out (U + 20 + 20 + 20) _ _ _ (by omega) hR
  clear hR hO hB
  refine hK _ _ (fun _ => S8) ?_
  refine early_take (i := 32) 173 (.bool false) rfl rfl (by kernel_rfl) (by kernel_rfl) (by kernel_rfl) (by kernel_rfl) rfl (fun c a w h => HP.out _ _ c a w h) (fun w' hw' => by go_simp) S8 ?_
  simp only [Act.put, List.setIfInBounds_toArray, List.set_cons_zero, List.set_cons_succ]
  refine early_take (i := 33) 174 (.bool false) rfl rfl (by kernel_rfl) (by kernel_rfl) (by kernel_rfl) (by kernel_rfl) rfl (fun c a w h => HP.out _ _ c a w h) (fun w' hw' => by go_simp) S8 ?_
  simp only [Act.put, List.setIfInBounds_toArray, List.set_cons_zero, List.set_cons_succ]
  refine early_done (by kernel_rfl) ?_
  exact HQ.out w8 O8 s8 _ _ _ _ _ _ _ _ _ _ _ _ _ _ _ _ _ _ _ _ _ _ _ _ _ _ _ _ _ _ _ _ _ Y8.out

set_option maxRecDepth 1000000 in
set_option maxHeartbeats 3200000 in
theorem r21_false {B : Nat} {w0 w : World} {R q cap : Nat} {P : Pl} {O : Nat → Prop} {s0 s : AS} {U : Int} (m : Int) (hR : Ri B w0 R q cap P s0 U w O s) (hU : U ≤ 300) (hme : decide (0 ≤ m ∧ m < (s0.M : Int)) = false)
    (c0 c2 c3 c4 c5 c6 c7 c8 c9 c10 c11 c12 c13 c14 c15 c17 c18 c19 c20 c21 c22 c23 c24 c26 c27 c28 c29 c30 c31 c32 c33 c34 c35 c36 c37 c38 c39 c40 c41 c42 c43 c44 c45 c46 c47 c48 c49 c50 c51 c52 c53 c54 c55 c56 c57 c58 c59 c60 c61 c62 c63 c64 c65 c66 c67 c68 c69 c70 c71 c72 c73 c74 c75 c76 c77 c78 c79 c80 c81 c82 c83 c84 c85 c86 c87 c88 c89 c90 c91 c92 c93 c94 c95 c96 c97 c98 c99 c100 c101 c102 c103 c104 c105 c106 c107 c108 c109 c110 c111 c112 c113 c114 c115 c116 c117 c118 c119 c120 c121 c122 c123 c124 c125 c126 c127 c128 c129 c130 c131 c132 c133 c134 c135 c136 c137 c138 c139 c140 c141 c142 c143 c144 c145 c146 c147 c148 c149 c150 c151 c152 c153 c154 c155 c156 c157 c158 c159 c160 c161 c162 c163 c164 c165 c166 c167 c168 c169 c170 c171 c172 c173 c174 c175 c176 c177 c178 c179 c180 c181 c182 c183 c184 c185 c186 c187 c188 c189 c190 c191 c192 c193 c194 c195 c196 c197 c198 c199 c200 c201 c202 c203 c204 c205 c206 c207 c208 c209 c210 c211 c212 c213 c214 c215 c216 c217 c218 c219 c220 c221 c222 c223 c224 c225 c226 c227 c228 c229 c230 c231 c232 c233 c234 c235 c236 c237 c238 c239 c240 c241 c242 c243 c244 c245 c246 c247 c248 c249 c250 c251 c252 c253 : Value) (Q : Exit → Act → World → Prop) (hQ : ∀ w' O' s' (d183 d184 d185 d186 d187 d188 d189 d190 d191 d192 d193 d194 d195 d196 d197 d198 d199 : Value), Sys B w0 w' R q cap P O' s' → Same s0 s' → s'.u ≤ 400 → Q .normal ⟨#[c0, .int .i64 m, c2, c3, c4, c5, c6, c7, c8, c9, c10, c11, c12, c13, c14, c15, ptr R, c17, c18, c19, c20, c21, c22, c23, c24, .bool false, c26, c27, c28, c29, c30, c31, c32, c33, c34, c35, c36, c37, c38, c39, c40, c41, c42, c43, c44, c45, c46, c47, c48, c49, c50, c51, c52, c53, c54, c55, c56, c57, c58, c59, c60, c61, c62, c63, c64, c65, c66, c67, c68, c69, c70, c71, c72, c73, c74, c75, c76, c77, c78, c79, c80, c81, c82, c83, c84, c85, c86, c87, c88, c89, c90, c91, c92, c93, c94, c95, c96, c97, c98, c99, c100, c101, c102, c103, c104, c105, c106, c107, c108, c109, c110, c111, c112, c113, c114, c115, c116, c117, c118, c119, c120, c121, c122, c123, c124, c125, c126, c127, c128, c129, c130, c131, c132, c133, c134, c135, c136, c137, c138, c139, c140, c141, c142, c143, c144, c145, c146, c147, c148, c149, c150, c151, c152, c153, c154, c155, c156, c157, c158, c159, c160, c161, c162, c163, c164, c165, c166, c167, c168, c169, c170, c171, c172, c173, c174, c175, c176, c177, c178, c179, c180, c181, c182, d183, d184, d185, d186, d187, d188, d189, d190, d191, d192, d193, d194, d195, d196, d197, d198, d199, .bool false, c201, c202, c203, c204, c205, c206, c207, c208, c209, c210, c211, c212, c213, c214, c215, c216, c217, c218, c219, c220, c221, c222, c223, c224, c225, c226, c227, c228, c229, c230, c231, c232, c233, c234, c235, c236, c237, c238, c239, c240, c241, c242, c243, c244, c245, c246, c247, c248, c249, c250, c251, c252, c253], []⟩ w') : Code.wp Try.prog reg21 Q ⟨#[c0, .int .i64 m, c2, c3, c4, c5, c6, c7, c8, c9, c10, c11, c12, c13, c14, c15, ptr R, c17, c18, c19, c20, c21, c22, c23, c24, .bool false, c26, c27, c28, c29, c30, c31, c32, c33, c34, c35, c36, c37, c38, c39, c40, c41, c42, c43, c44, c45, c46, c47, c48, c49, c50, c51, c52, c53, c54, c55, c56, c57, c58, c59, c60, c61, c62, c63, c64, c65, c66, c67, c68, c69, c70, c71, c72, c73, c74, c75, c76, c77, c78, c79, c80, c81, c82, c83, c84, c85, c86, c87, c88, c89, c90, c91, c92, c93, c94, c95, c96, c97, c98, c99, c100, c101, c102, c103, c104, c105, c106, c107, c108, c109, c110, c111, c112, c113, c114, c115, c116, c117, c118, c119, c120, c121, c122, c123, c124, c125, c126, c127, c128, c129, c130, c131, c132, c133, c134, c135, c136, c137, c138, c139, c140, c141, c142, c143, c144, c145, c146, c147, c148, c149, c150, c151, c152, c153, c154, c155, c156, c157, c158, c159, c160, c161, c162, c163, c164, c165, c166, c167, c168, c169, c170, c171, c172, c173, c174, c175, c176, c177, c178, c179, c180, c181, c182, c183, c184, c185, c186, c187, c188, c189, c190, c191, c192, c193, c194, c195, c196, c197, c198, c199, c200, c201, c202, c203, c204, c205, c206, c207, c208, c209, c210, c211, c212, c213, c214, c215, c216, c217, c218, c219, c220, c221, c222, c223, c224, c225, c226, c227, c228, c229, c230, c231, c232, c233, c234, c235, c236, c237, c238, c239, c240, c241, c242, c243, c244, c245, c246, c247, c248, c249, c250, c251, c252, c253], []⟩ w := by
  have YY := Lib.hid hR
  have HQ := Lib.hid hQ
  have ME := Lib.hid hme
  have r9 : w.cell? ⟨R, 9, none⟩ = some (ptr P.a) := hR.sys.rg.rig.cell 9
  clear hR hQ hme
  conv => arg 2; whnf
  go_wp2_with fail
  refine (replace_ri m YY.out).mono ?_
  rintro e w8 ⟨rfl, O8, s8, hR, hO, hB⟩
  have Y8 := Lib.hid hR
  have r9 : w8.cell? ⟨R, 9, none⟩ = some (ptr P.a) := hR.sys.rg.rig.cell 9
  clear hR hO hB
  go_wp2_with fail
  refine (lose_ri m Y8.out (by omega)).mono ?_
  rintro e w9 ⟨rfl, s9, hS, hs, hu⟩
  have Y9 := Lib.hid hS
  have SM := Lib.hid hs
  have US := Lib.hid (show s9.u ≤ 400 by omega)
  rw [ME.out, show no false = 1 from rfl]
  clear hS hs hu r9
  go_wp2
  exact HQ.out w9 O8 s9 _ _ _ _ _ _ _ _ _ _ _ _ _ _ _ _ _ Y9.out SM.out US.out

set_option maxRecDepth 1000000 in
set_option maxHeartbeats 3200000 in
theorem r21_true {B : Nat} {w0 w : World} {R q cap : Nat} {P : Pl} {O : Nat → Prop} {s0 s : AS} {U : Int} (m : Int) (hR : Ri B w0 R q cap P s0 U w O s) (hU : U ≤ 300) (hme : decide (0 ≤ m ∧ m < (s0.M : Int)) = true)
    (c0 c2 c3 c4 c5 c6 c7 c8 c9 c10 c11 c12 c13 c14 c15 c17 c18 c19 c20 c21 c22 c23 c24 c26 c27 c28 c29 c30 c31 c32 c33 c34 c35 c36 c37 c38 c39 c40 c41 c42 c43 c44 c45 c46 c47 c48 c49 c50 c51 c52 c53 c54 c55 c56 c57 c58 c59 c60 c61 c62 c63 c64 c65 c66 c67 c68 c69 c70 c71 c72 c73 c74 c75 c76 c77 c78 c79 c80 c81 c82 c83 c84 c85 c86 c87 c88 c89 c90 c91 c92 c93 c94 c95 c96 c97 c98 c99 c100 c101 c102 c103 c104 c105 c106 c107 c108 c109 c110 c111 c112 c113 c114 c115 c116 c117 c118 c119 c120 c121 c122 c123 c124 c125 c126 c127 c128 c129 c130 c131 c132 c133 c134 c135 c136 c137 c138 c139 c140 c141 c142 c143 c144 c145 c146 c147 c148 c149 c150 c151 c152 c153 c154 c155 c156 c157 c158 c159 c160 c161 c162 c163 c164 c165 c166 c167 c168 c169 c170 c171 c172 c173 c174 c175 c176 c177 c178 c179 c180 c181 c182 c183 c184 c185 c186 c187 c188 c189 c190 c191 c192 c193 c194 c195 c196 c197 c198 c199 c200 c201 c202 c203 c204 c205 c206 c207 c208 c209 c210 c211 c212 c213 c214 c215 c216 c217 c218 c219 c220 c221 c222 c223 c224 c225 c226 c227 c228 c229 c230 c231 c232 c233 c234 c235 c236 c237 c238 c239 c240 c241 c242 c243 c244 c245 c246 c247 c248 c249 c250 c251 c252 c253 : Value) (Q : Exit → Act → World → Prop) (hQ : ∀ w' O' s' (d183 d184 d185 d186 d187 d188 d189 d190 d191 d192 d193 d194 d195 d196 d197 d198 d199 : Value), Sys B w0 w' R q cap P O' s' → Same s0 s' → s'.u ≤ 400 → Q .normal ⟨#[c0, .int .i64 m, c2, c3, c4, c5, c6, c7, c8, c9, c10, c11, c12, c13, c14, c15, ptr R, c17, c18, c19, c20, c21, c22, c23, c24, .bool true, c26, c27, c28, c29, c30, c31, c32, c33, c34, c35, c36, c37, c38, c39, c40, c41, c42, c43, c44, c45, c46, c47, c48, c49, c50, c51, c52, c53, c54, c55, c56, c57, c58, c59, c60, c61, c62, c63, c64, c65, c66, c67, c68, c69, c70, c71, c72, c73, c74, c75, c76, c77, c78, c79, c80, c81, c82, c83, c84, c85, c86, c87, c88, c89, c90, c91, c92, c93, c94, c95, c96, c97, c98, c99, c100, c101, c102, c103, c104, c105, c106, c107, c108, c109, c110, c111, c112, c113, c114, c115, c116, c117, c118, c119, c120, c121, c122, c123, c124, c125, c126, c127, c128, c129, c130, c131, c132, c133, c134, c135, c136, c137, c138, c139, c140, c141, c142, c143, c144, c145, c146, c147, c148, c149, c150, c151, c152, c153, c154, c155, c156, c157, c158, c159, c160, c161, c162, c163, c164, c165, c166, c167, c168, c169, c170, c171, c172, c173, c174, c175, c176, c177, c178, c179, c180, c181, c182, d183, d184, d185, d186, d187, d188, d189, d190, d191, d192, d193, d194, d195, d196, d197, d198, d199, .bool false, c201, c202, c203, c204, c205, c206, c207, c208, c209, c210, c211, c212, c213, c214, c215, c216, c217, c218, c219, c220, c221, c222, c223, c224, c225, c226, c227, c228, c229, c230, c231, c232, c233, c234, c235, c236, c237, c238, c239, c240, c241, c242, c243, c244, c245, c246, c247, c248, c249, c250, c251, c252, c253], []⟩ w') : Code.wp Try.prog reg21 Q ⟨#[c0, .int .i64 m, c2, c3, c4, c5, c6, c7, c8, c9, c10, c11, c12, c13, c14, c15, ptr R, c17, c18, c19, c20, c21, c22, c23, c24, .bool true, c26, c27, c28, c29, c30, c31, c32, c33, c34, c35, c36, c37, c38, c39, c40, c41, c42, c43, c44, c45, c46, c47, c48, c49, c50, c51, c52, c53, c54, c55, c56, c57, c58, c59, c60, c61, c62, c63, c64, c65, c66, c67, c68, c69, c70, c71, c72, c73, c74, c75, c76, c77, c78, c79, c80, c81, c82, c83, c84, c85, c86, c87, c88, c89, c90, c91, c92, c93, c94, c95, c96, c97, c98, c99, c100, c101, c102, c103, c104, c105, c106, c107, c108, c109, c110, c111, c112, c113, c114, c115, c116, c117, c118, c119, c120, c121, c122, c123, c124, c125, c126, c127, c128, c129, c130, c131, c132, c133, c134, c135, c136, c137, c138, c139, c140, c141, c142, c143, c144, c145, c146, c147, c148, c149, c150, c151, c152, c153, c154, c155, c156, c157, c158, c159, c160, c161, c162, c163, c164, c165, c166, c167, c168, c169, c170, c171, c172, c173, c174, c175, c176, c177, c178, c179, c180, c181, c182, c183, c184, c185, c186, c187, c188, c189, c190, c191, c192, c193, c194, c195, c196, c197, c198, c199, c200, c201, c202, c203, c204, c205, c206, c207, c208, c209, c210, c211, c212, c213, c214, c215, c216, c217, c218, c219, c220, c221, c222, c223, c224, c225, c226, c227, c228, c229, c230, c231, c232, c233, c234, c235, c236, c237, c238, c239, c240, c241, c242, c243, c244, c245, c246, c247, c248, c249, c250, c251, c252, c253], []⟩ w := by
  have YY := Lib.hid hR
  have HQ := Lib.hid hQ
  have ME := Lib.hid hme
  have r9 : w.cell? ⟨R, 9, none⟩ = some (ptr P.a) := hR.sys.rg.rig.cell 9
  clear hR hQ hme
  conv => arg 2; whnf
  go_wp2_with fail
  refine (replace_ri m YY.out).mono ?_
  rintro e w8 ⟨rfl, O8, s8, hR, hO, hB⟩
  have Y8 := Lib.hid hR
  have r9 : w8.cell? ⟨R, 9, none⟩ = some (ptr P.a) := hR.sys.rg.rig.cell 9
  clear hR hO hB
  go_wp2_with fail
  refine (lose_ri m Y8.out (by omega)).mono ?_
  rintro e w9 ⟨rfl, s9, hS, hs, hu⟩
  have Y9 := Lib.hid hS
  have SM := Lib.hid hs
  have US := Lib.hid (show s9.u ≤ 400 by omega)
  rw [ME.out, show no true = 0 from rfl]
  clear hS hs hu r9
  go_wp2
  exact HQ.out w9 O8 s9 _ _ _ _ _ _ _ _ _ _ _ _ _ _ _ _ _ Y9.out SM.out US.out

set_option maxRecDepth 1000000 in
set_option maxHeartbeats 3200000 in
theorem r18_any {B : Nat} {w0 w : World} {R q cap : Nat} {P : Pl} {O : Nat → Prop} {s0 s : AS} {U : Int} {X : Nat} {bd : Bool} (i : Int) (hd : decide (0 ≤ i ∧ i < (s0.S : Int)) = bd) (hR : Ri B w0 R q cap P s0 U w O s) (hU : U ≤ 300) (hB : ∀ wx O' s', Ri B w0 R q cap P s0 400 wx O' s' → wx.rangeAt X 0 s0.sh) (hb48 : 32 ≤ s0.b ∧ s0.b ≤ 48)
    (c0 c1 c2 c3 c5 c6 c7 c8 c9 c10 c11 c12 c13 c14 c17 c18 c19 c20 c21 c22 c25 c26 c27 c28 c29 c30 c31 c32 c33 c34 c35 c36 c37 c38 c39 c40 c41 c42 c43 c44 c45 c46 c47 c48 c49 c50 c51 c52 c53 c54 c55 c56 c57 c58 c59 c60 c61 c62 c63 c64 c65 c66 c67 c68 c69 c70 c71 c72 c73 c74 c75 c76 c77 c78 c79 c80 c81 c82 c83 c84 c85 c86 c87 c88 c89 c90 c91 c92 c93 c94 c95 c96 c97 c98 c99 c100 c101 c102 c103 c104 c105 c106 c107 c108 c109 c110 c111 c112 c113 c114 c115 c116 c117 c118 c119 c120 c121 c122 c123 c124 c125 c126 c127 c128 c129 c130 c131 c132 c133 c134 c135 c136 c137 c138 c139 c140 c141 c142 c143 c144 c145 c146 c147 c148 c149 c150 c151 c152 c153 c154 c155 c156 c157 c158 c159 c160 c161 c162 c163 c164 c165 c166 c167 c168 c169 c170 c171 c172 c173 c174 c175 c176 c177 c178 c179 c180 c181 c182 c183 c184 c185 c186 c187 c188 c189 c190 c191 c192 c193 c194 c195 c196 c197 c198 c199 c200 c201 c202 c203 c204 c205 c206 c207 c208 c209 c210 c211 c212 c213 c214 c215 c216 c217 c218 c219 c220 c221 c222 c223 c224 c225 c226 c227 c228 c229 c230 c231 c232 c233 c234 c235 c236 c237 c238 c239 c240 c241 c242 c243 c244 c245 c246 c247 c248 c249 c250 c251 c252 c253 : Value) (Q : Exit → Act → World → Prop) (hP : ∀ t v c a w, Q (.panic c) (a.put (some t) v) w → Q (.panic c) a w) (hQ : ∀ w' O' s' (d141 d142 d143 d144 d145 d146 d147 d148 d149 d150 d151 d152 d153 d154 d155 d156 d157 d158 d159 d160 d161 d162 d163 d164 d165 d166 d167 d168 d169 d170 d171 d172 d173 : Value), Ri B w0 R q cap P s0 (U + 20 + 20 + 20) w' O' s' → Q .normal ⟨#[c0, c1, c2, c3, .int .i64 i, c5, c6, c7, c8, c9, c10, c11, c12, c13, c14, .pointer (some ⟨X, 0, none⟩), ptr R, c17, c18, c19, c20, c21, c22, .int .i64 (no bd), .bool bd, c25, c26, c27, c28, c29, c30, c31, c32, c33, c34, c35, c36, c37, c38, c39, c40, c41, c42, c43, c44, c45, c46, c47, c48, c49, c50, c51, c52, c53, c54, c55, c56, c57, c58, c59, c60, c61, c62, c63, c64, c65, c66, c67, c68, c69, c70, c71, c72, c73, c74, c75, c76, c77, c78, c79, c80, c81, c82, c83, c84, c85, c86, c87, c88, c89, c90, c91, c92, c93, c94, c95, c96, c97, c98, c99, c100, c101, c102, c103, c104, c105, c106, c107, c108, c109, c110, c111, c112, c113, c114, c115, c116, c117, c118, c119, c120, c121, c122, c123, c124, c125, c126, c127, c128, c129, c130, c131, c132, c133, c134, c135, c136, c137, c138, c139, c140, d141, d142, d143, d144, d145, d146, d147, d148, d149, d150, d151, d152, d153, d154, d155, d156, d157, d158, d159, d160, d161, d162, d163, d164, d165, d166, d167, d168, d169, d170, d171, d172, d173, .bool false, c175, c176, c177, c178, c179, c180, c181, c182, c183, c184, c185, c186, c187, c188, c189, c190, c191, c192, c193, c194, c195, c196, c197, c198, c199, c200, c201, c202, c203, c204, c205, c206, c207, c208, c209, c210, c211, c212, c213, c214, c215, c216, c217, c218, c219, c220, c221, c222, c223, c224, c225, c226, c227, c228, c229, c230, c231, c232, c233, c234, c235, c236, c237, c238, c239, c240, c241, c242, c243, c244, c245, c246, c247, c248, c249, c250, c251, c252, c253], []⟩ w') : Code.wp Try.prog reg18 Q ⟨#[c0, c1, c2, c3, .int .i64 i, c5, c6, c7, c8, c9, c10, c11, c12, c13, c14, .pointer (some ⟨X, 0, none⟩), ptr R, c17, c18, c19, c20, c21, c22, .int .i64 (no bd), .bool bd, c25, c26, c27, c28, c29, c30, c31, c32, c33, c34, c35, c36, c37, c38, c39, c40, c41, c42, c43, c44, c45, c46, c47, c48, c49, c50, c51, c52, c53, c54, c55, c56, c57, c58, c59, c60, c61, c62, c63, c64, c65, c66, c67, c68, c69, c70, c71, c72, c73, c74, c75, c76, c77, c78, c79, c80, c81, c82, c83, c84, c85, c86, c87, c88, c89, c90, c91, c92, c93, c94, c95, c96, c97, c98, c99, c100, c101, c102, c103, c104, c105, c106, c107, c108, c109, c110, c111, c112, c113, c114, c115, c116, c117, c118, c119, c120, c121, c122, c123, c124, c125, c126, c127, c128, c129, c130, c131, c132, c133, c134, c135, c136, c137, c138, c139, c140, c141, c142, c143, c144, c145, c146, c147, c148, c149, c150, c151, c152, c153, c154, c155, c156, c157, c158, c159, c160, c161, c162, c163, c164, c165, c166, c167, c168, c169, c170, c171, c172, c173, c174, c175, c176, c177, c178, c179, c180, c181, c182, c183, c184, c185, c186, c187, c188, c189, c190, c191, c192, c193, c194, c195, c196, c197, c198, c199, c200, c201, c202, c203, c204, c205, c206, c207, c208, c209, c210, c211, c212, c213, c214, c215, c216, c217, c218, c219, c220, c221, c222, c223, c224, c225, c226, c227, c228, c229, c230, c231, c232, c233, c234, c235, c236, c237, c238, c239, c240, c241, c242, c243, c244, c245, c246, c247, c248, c249, c250, c251, c252, c253], []⟩ w := by
  cases bd
  · exact r18_false i hR hU hB hb48 hd c0 c1 c2 c3 c5 c6 c7 c8 c9 c10 c11 c12 c13 c14 c17 c18 c19 c20 c21 c22 c25 c26 c27 c28 c29 c30 c31 c32 c33 c34 c35 c36 c37 c38 c39 c40 c41 c42 c43 c44 c45 c46 c47 c48 c49 c50 c51 c52 c53 c54 c55 c56 c57 c58 c59 c60 c61 c62 c63 c64 c65 c66 c67 c68 c69 c70 c71 c72 c73 c74 c75 c76 c77 c78 c79 c80 c81 c82 c83 c84 c85 c86 c87 c88 c89 c90 c91 c92 c93 c94 c95 c96 c97 c98 c99 c100 c101 c102 c103 c104 c105 c106 c107 c108 c109 c110 c111 c112 c113 c114 c115 c116 c117 c118 c119 c120 c121 c122 c123 c124 c125 c126 c127 c128 c129 c130 c131 c132 c133 c134 c135 c136 c137 c138 c139 c140 c141 c142 c143 c144 c145 c146 c147 c148 c149 c150 c151 c152 c153 c154 c155 c156 c157 c158 c159 c160 c161 c162 c163 c164 c165 c166 c167 c168 c169 c170 c171 c172 c173 c174 c175 c176 c177 c178 c179 c180 c181 c182 c183 c184 c185 c186 c187 c188 c189 c190 c191 c192 c193 c194 c195 c196 c197 c198 c199 c200 c201 c202 c203 c204 c205 c206 c207 c208 c209 c210 c211 c212 c213 c214 c215 c216 c217 c218 c219 c220 c221 c222 c223 c224 c225 c226 c227 c228 c229 c230 c231 c232 c233 c234 c235 c236 c237 c238 c239 c240 c241 c242 c243 c244 c245 c246 c247 c248 c249 c250 c251 c252 c253 Q hP hQ
  · exact r18_true i hR hU hB hb48 hd c0 c1 c2 c3 c5 c6 c7 c8 c9 c10 c11 c12 c13 c14 c17 c18 c19 c20 c21 c22 c25 c26 c27 c28 c29 c30 c31 c32 c33 c34 c35 c36 c37 c38 c39 c40 c41 c42 c43 c44 c45 c46 c47 c48 c49 c50 c51 c52 c53 c54 c55 c56 c57 c58 c59 c60 c61 c62 c63 c64 c65 c66 c67 c68 c69 c70 c71 c72 c73 c74 c75 c76 c77 c78 c79 c80 c81 c82 c83 c84 c85 c86 c87 c88 c89 c90 c91 c92 c93 c94 c95 c96 c97 c98 c99 c100 c101 c102 c103 c104 c105 c106 c107 c108 c109 c110 c111 c112 c113 c114 c115 c116 c117 c118 c119 c120 c121 c122 c123 c124 c125 c126 c127 c128 c129 c130 c131 c132 c133 c134 c135 c136 c137 c138 c139 c140 c141 c142 c143 c144 c145 c146 c147 c148 c149 c150 c151 c152 c153 c154 c155 c156 c157 c158 c159 c160 c161 c162 c163 c164 c165 c166 c167 c168 c169 c170 c171 c172 c173 c174 c175 c176 c177 c178 c179 c180 c181 c182 c183 c184 c185 c186 c187 c188 c189 c190 c191 c192 c193 c194 c195 c196 c197 c198 c199 c200 c201 c202 c203 c204 c205 c206 c207 c208 c209 c210 c211 c212 c213 c214 c215 c216 c217 c218 c219 c220 c221 c222 c223 c224 c225 c226 c227 c228 c229 c230 c231 c232 c233 c234 c235 c236 c237 c238 c239 c240 c241 c242 c243 c244 c245 c246 c247 c248 c249 c250 c251 c252 c253 Q hP hQ

set_option maxRecDepth 1000000 in
set_option maxHeartbeats 3200000 in
theorem r21_any {B : Nat} {w0 w : World} {R q cap : Nat} {P : Pl} {O : Nat → Prop} {s0 s : AS} {U : Int} {bd : Bool} (m : Int) (hd : decide (0 ≤ m ∧ m < (s0.M : Int)) = bd) (hR : Ri B w0 R q cap P s0 U w O s) (hU : U ≤ 300) 
    (c0 c2 c3 c4 c5 c6 c7 c8 c9 c10 c11 c12 c13 c14 c15 c17 c18 c19 c20 c21 c22 c23 c24 c26 c27 c28 c29 c30 c31 c32 c33 c34 c35 c36 c37 c38 c39 c40 c41 c42 c43 c44 c45 c46 c47 c48 c49 c50 c51 c52 c53 c54 c55 c56 c57 c58 c59 c60 c61 c62 c63 c64 c65 c66 c67 c68 c69 c70 c71 c72 c73 c74 c75 c76 c77 c78 c79 c80 c81 c82 c83 c84 c85 c86 c87 c88 c89 c90 c91 c92 c93 c94 c95 c96 c97 c98 c99 c100 c101 c102 c103 c104 c105 c106 c107 c108 c109 c110 c111 c112 c113 c114 c115 c116 c117 c118 c119 c120 c121 c122 c123 c124 c125 c126 c127 c128 c129 c130 c131 c132 c133 c134 c135 c136 c137 c138 c139 c140 c141 c142 c143 c144 c145 c146 c147 c148 c149 c150 c151 c152 c153 c154 c155 c156 c157 c158 c159 c160 c161 c162 c163 c164 c165 c166 c167 c168 c169 c170 c171 c172 c173 c174 c175 c176 c177 c178 c179 c180 c181 c182 c183 c184 c185 c186 c187 c188 c189 c190 c191 c192 c193 c194 c195 c196 c197 c198 c199 c200 c201 c202 c203 c204 c205 c206 c207 c208 c209 c210 c211 c212 c213 c214 c215 c216 c217 c218 c219 c220 c221 c222 c223 c224 c225 c226 c227 c228 c229 c230 c231 c232 c233 c234 c235 c236 c237 c238 c239 c240 c241 c242 c243 c244 c245 c246 c247 c248 c249 c250 c251 c252 c253 : Value) (Q : Exit → Act → World → Prop) (hQ : ∀ w' O' s' (d183 d184 d185 d186 d187 d188 d189 d190 d191 d192 d193 d194 d195 d196 d197 d198 d199 : Value), Sys B w0 w' R q cap P O' s' → Same s0 s' → s'.u ≤ 400 → Q .normal ⟨#[c0, .int .i64 m, c2, c3, c4, c5, c6, c7, c8, c9, c10, c11, c12, c13, c14, c15, ptr R, c17, c18, c19, c20, c21, c22, c23, c24, .bool bd, c26, c27, c28, c29, c30, c31, c32, c33, c34, c35, c36, c37, c38, c39, c40, c41, c42, c43, c44, c45, c46, c47, c48, c49, c50, c51, c52, c53, c54, c55, c56, c57, c58, c59, c60, c61, c62, c63, c64, c65, c66, c67, c68, c69, c70, c71, c72, c73, c74, c75, c76, c77, c78, c79, c80, c81, c82, c83, c84, c85, c86, c87, c88, c89, c90, c91, c92, c93, c94, c95, c96, c97, c98, c99, c100, c101, c102, c103, c104, c105, c106, c107, c108, c109, c110, c111, c112, c113, c114, c115, c116, c117, c118, c119, c120, c121, c122, c123, c124, c125, c126, c127, c128, c129, c130, c131, c132, c133, c134, c135, c136, c137, c138, c139, c140, c141, c142, c143, c144, c145, c146, c147, c148, c149, c150, c151, c152, c153, c154, c155, c156, c157, c158, c159, c160, c161, c162, c163, c164, c165, c166, c167, c168, c169, c170, c171, c172, c173, c174, c175, c176, c177, c178, c179, c180, c181, c182, d183, d184, d185, d186, d187, d188, d189, d190, d191, d192, d193, d194, d195, d196, d197, d198, d199, .bool false, c201, c202, c203, c204, c205, c206, c207, c208, c209, c210, c211, c212, c213, c214, c215, c216, c217, c218, c219, c220, c221, c222, c223, c224, c225, c226, c227, c228, c229, c230, c231, c232, c233, c234, c235, c236, c237, c238, c239, c240, c241, c242, c243, c244, c245, c246, c247, c248, c249, c250, c251, c252, c253], []⟩ w') : Code.wp Try.prog reg21 Q ⟨#[c0, .int .i64 m, c2, c3, c4, c5, c6, c7, c8, c9, c10, c11, c12, c13, c14, c15, ptr R, c17, c18, c19, c20, c21, c22, c23, c24, .bool bd, c26, c27, c28, c29, c30, c31, c32, c33, c34, c35, c36, c37, c38, c39, c40, c41, c42, c43, c44, c45, c46, c47, c48, c49, c50, c51, c52, c53, c54, c55, c56, c57, c58, c59, c60, c61, c62, c63, c64, c65, c66, c67, c68, c69, c70, c71, c72, c73, c74, c75, c76, c77, c78, c79, c80, c81, c82, c83, c84, c85, c86, c87, c88, c89, c90, c91, c92, c93, c94, c95, c96, c97, c98, c99, c100, c101, c102, c103, c104, c105, c106, c107, c108, c109, c110, c111, c112, c113, c114, c115, c116, c117, c118, c119, c120, c121, c122, c123, c124, c125, c126, c127, c128, c129, c130, c131, c132, c133, c134, c135, c136, c137, c138, c139, c140, c141, c142, c143, c144, c145, c146, c147, c148, c149, c150, c151, c152, c153, c154, c155, c156, c157, c158, c159, c160, c161, c162, c163, c164, c165, c166, c167, c168, c169, c170, c171, c172, c173, c174, c175, c176, c177, c178, c179, c180, c181, c182, c183, c184, c185, c186, c187, c188, c189, c190, c191, c192, c193, c194, c195, c196, c197, c198, c199, c200, c201, c202, c203, c204, c205, c206, c207, c208, c209, c210, c211, c212, c213, c214, c215, c216, c217, c218, c219, c220, c221, c222, c223, c224, c225, c226, c227, c228, c229, c230, c231, c232, c233, c234, c235, c236, c237, c238, c239, c240, c241, c242, c243, c244, c245, c246, c247, c248, c249, c250, c251, c252, c253], []⟩ w := by
  cases bd
  · exact r21_false m hR hU  hd c0 c2 c3 c4 c5 c6 c7 c8 c9 c10 c11 c12 c13 c14 c15 c17 c18 c19 c20 c21 c22 c23 c24 c26 c27 c28 c29 c30 c31 c32 c33 c34 c35 c36 c37 c38 c39 c40 c41 c42 c43 c44 c45 c46 c47 c48 c49 c50 c51 c52 c53 c54 c55 c56 c57 c58 c59 c60 c61 c62 c63 c64 c65 c66 c67 c68 c69 c70 c71 c72 c73 c74 c75 c76 c77 c78 c79 c80 c81 c82 c83 c84 c85 c86 c87 c88 c89 c90 c91 c92 c93 c94 c95 c96 c97 c98 c99 c100 c101 c102 c103 c104 c105 c106 c107 c108 c109 c110 c111 c112 c113 c114 c115 c116 c117 c118 c119 c120 c121 c122 c123 c124 c125 c126 c127 c128 c129 c130 c131 c132 c133 c134 c135 c136 c137 c138 c139 c140 c141 c142 c143 c144 c145 c146 c147 c148 c149 c150 c151 c152 c153 c154 c155 c156 c157 c158 c159 c160 c161 c162 c163 c164 c165 c166 c167 c168 c169 c170 c171 c172 c173 c174 c175 c176 c177 c178 c179 c180 c181 c182 c183 c184 c185 c186 c187 c188 c189 c190 c191 c192 c193 c194 c195 c196 c197 c198 c199 c200 c201 c202 c203 c204 c205 c206 c207 c208 c209 c210 c211 c212 c213 c214 c215 c216 c217 c218 c219 c220 c221 c222 c223 c224 c225 c226 c227 c228 c229 c230 c231 c232 c233 c234 c235 c236 c237 c238 c239 c240 c241 c242 c243 c244 c245 c246 c247 c248 c249 c250 c251 c252 c253 Q hQ
  · exact r21_true m hR hU  hd c0 c2 c3 c4 c5 c6 c7 c8 c9 c10 c11 c12 c13 c14 c15 c17 c18 c19 c20 c21 c22 c23 c24 c26 c27 c28 c29 c30 c31 c32 c33 c34 c35 c36 c37 c38 c39 c40 c41 c42 c43 c44 c45 c46 c47 c48 c49 c50 c51 c52 c53 c54 c55 c56 c57 c58 c59 c60 c61 c62 c63 c64 c65 c66 c67 c68 c69 c70 c71 c72 c73 c74 c75 c76 c77 c78 c79 c80 c81 c82 c83 c84 c85 c86 c87 c88 c89 c90 c91 c92 c93 c94 c95 c96 c97 c98 c99 c100 c101 c102 c103 c104 c105 c106 c107 c108 c109 c110 c111 c112 c113 c114 c115 c116 c117 c118 c119 c120 c121 c122 c123 c124 c125 c126 c127 c128 c129 c130 c131 c132 c133 c134 c135 c136 c137 c138 c139 c140 c141 c142 c143 c144 c145 c146 c147 c148 c149 c150 c151 c152 c153 c154 c155 c156 c157 c158 c159 c160 c161 c162 c163 c164 c165 c166 c167 c168 c169 c170 c171 c172 c173 c174 c175 c176 c177 c178 c179 c180 c181 c182 c183 c184 c185 c186 c187 c188 c189 c190 c191 c192 c193 c194 c195 c196 c197 c198 c199 c200 c201 c202 c203 c204 c205 c206 c207 c208 c209 c210 c211 c212 c213 c214 c215 c216 c217 c218 c219 c220 c221 c222 c223 c224 c225 c226 c227 c228 c229 c230 c231 c232 c233 c234 c235 c236 c237 c238 c239 c240 c241 c242 c243 c244 c245 c246 c247 c248 c249 c250 c251 c252 c253 Q hQ

/-- The first region of some code. -/
def firstReg : Code → Option Nat
  | .region i _ _ => some i
  | .seq a _ => firstReg a
  | .block _ c => firstReg c
  | .scope c => firstReg c
  | .loop c => firstReg c
  | _ => none
/-- The code that begins with that region. -/
def fromReg (n : Nat) : Code → Option Code
  | .seq a b => if firstReg a = some n then some (.seq a b) else match fromReg n a with
    | some c => some c
    | none => fromReg n b
  | .block _ c => fromReg n c
  | .scope c => fromReg n c
  | .loop c => fromReg n c
  | .cond _ a b => match fromReg n a with
    | some c => some c
    | none => fromReg n b
  | _ => none
noncomputable def tail23 : Code := (Try.f7.body.bind (fromReg 23)).getD .skip

set_option maxRecDepth 1000000 in
set_option maxHeartbeats 12800000 in
theorem tail_any {B : Nat} {w0 w : World} {R q cap : Nat} {P : Pl} {O : Nat → Prop} {s0 s : AS} {X : Nat} (hS : Sys B w0 w R q cap P O s) (hs : Same s0 s) (hu : s.u ≤ 400) (hB : ∀ wx O' s', Sys B w0 wx R q cap P O' s' → wx.rangeAt X 0 s0.sh)
    (c0 c1 c2 c3 c4 c5 c6 c7 c8 c9 c10 c11 c12 c13 c14 c17 c18 c19 c20 c21 c22 c23 c24 c25 c26 c27 c28 c29 c30 c31 c32 c33 c34 c35 c36 c37 c38 c39 c40 c41 c42 c43 c44 c45 c46 c47 c48 c49 c50 c51 c52 c53 c54 c55 c56 c57 c58 c59 c60 c61 c62 c63 c64 c65 c66 c67 c68 c69 c70 c71 c72 c73 c74 c75 c76 c77 c78 c79 c80 c81 c82 c83 c84 c85 c86 c87 c88 c89 c90 c91 c92 c93 c94 c95 c96 c97 c98 c99 c100 c101 c102 c103 c104 c105 c106 c107 c108 c109 c110 c111 c112 c113 c114 c115 c116 c117 c118 c119 c120 c121 c122 c123 c124 c125 c126 c127 c128 c129 c130 c131 c132 c133 c134 c135 c136 c137 c138 c139 c140 c141 c142 c143 c144 c145 c146 c147 c148 c149 c150 c151 c152 c153 c154 c155 c156 c157 c158 c159 c160 c161 c162 c163 c164 c165 c166 c167 c168 c169 c170 c171 c172 c173 c174 c175 c176 c177 c178 c179 c180 c181 c182 c183 c184 c185 c186 c187 c188 c189 c190 c191 c192 c193 c194 c195 c196 c197 c198 c199 c200 c201 c202 c203 c204 c205 c206 c207 c208 c209 c210 c211 c212 c213 c214 c215 c216 c217 c218 c219 c220 c221 c222 c223 c224 c225 c226 c227 c228 c229 c230 c231 c232 c233 c234 c235 c236 c237 c238 c239 c240 c241 c242 c243 c244 c245 c246 c247 c248 c249 c250 c251 c252 c253 : Value) (Q : Exit → Act → World → Prop) (hP : ∀ t v c a w, Q (.panic c) (a.put (some t) v) w → Q (.panic c) a w) (hQ : ∀ w' (d26 d28 d29 d30 d31 d32 d201 d202 d203 d204 d205 d206 d207 d208 d209 d210 d211 d212 d213 d214 d215 d216 d217 d218 d219 d220 d221 d222 d223 d224 d225 d226 d227 d228 d229 d230 d231 d232 d233 d234 d235 d236 d237 d238 d239 d240 d241 d242 d243 d244 d245 d246 d247 d248 d249 d250 d251 d252 d253 : Value), Below B w0 w' → Q .ret ⟨#[c0, c1, c2, c3, c4, c5, c6, c7, c8, c9, c10, c11, c12, c13, .bool true, .pointer (some ⟨X, 0, none⟩), ptr R, c17, c18, c19, c20, c21, c22, c23, c24, c25, d26, c27, d28, d29, d30, d31, d32, c33, c34, c35, c36, c37, c38, c39, c40, c41, c42, c43, c44, c45, c46, c47, c48, c49, c50, c51, c52, c53, c54, c55, c56, c57, c58, c59, c60, c61, c62, c63, c64, c65, c66, c67, c68, c69, c70, c71, c72, c73, c74, c75, c76, c77, c78, c79, c80, c81, c82, c83, c84, c85, c86, c87, c88, c89, c90, c91, c92, c93, c94, c95, c96, c97, c98, c99, c100, c101, c102, c103, c104, c105, c106, c107, c108, c109, c110, c111, c112, c113, c114, c115, c116, c117, c118, c119, c120, c121, c122, c123, c124, c125, c126, c127, c128, c129, c130, c131, c132, c133, c134, c135, c136, c137, c138, c139, c140, c141, c142, c143, c144, c145, c146, c147, c148, c149, c150, c151, c152, c153, c154, c155, c156, c157, c158, c159, c160, c161, c162, c163, c164, c165, c166, c167, c168, c169, c170, c171, c172, c173, c174, c175, c176, c177, c178, c179, c180, c181, c182, c183, c184, c185, c186, c187, c188, c189, c190, c191, c192, c193, c194, c195, c196, c197, c198, c199, c200, d201, d202, d203, d204, d205, d206, d207, d208, d209, d210, d211, d212, d213, d214, d215, d216, d217, d218, d219, d220, d221, d222, d223, d224, d225, d226, d227, d228, d229, d230, d231, d232, d233, d234, d235, d236, d237, d238, d239, d240, d241, d242, d243, d244, d245, d246, d247, d248, d249, d250, d251, d252, d253], []⟩ w') : Code.wp Try.prog tail23 Q ⟨#[c0, c1, c2, c3, c4, c5, c6, c7, c8, c9, c10, c11, c12, c13, c14, .pointer (some ⟨X, 0, none⟩), ptr R, c17, c18, c19, c20, c21, c22, c23, c24, c25, c26, c27, c28, c29, c30, c31, c32, c33, c34, c35, c36, c37, c38, c39, c40, c41, c42, c43, c44, c45, c46, c47, c48, c49, c50, c51, c52, c53, c54, c55, c56, c57, c58, c59, c60, c61, c62, c63, c64, c65, c66, c67, c68, c69, c70, c71, c72, c73, c74, c75, c76, c77, c78, c79, c80, c81, c82, c83, c84, c85, c86, c87, c88, c89, c90, c91, c92, c93, c94, c95, c96, c97, c98, c99, c100, c101, c102, c103, c104, c105, c106, c107, c108, c109, c110, c111, c112, c113, c114, c115, c116, c117, c118, c119, c120, c121, c122, c123, c124, c125, c126, c127, c128, c129, c130, c131, c132, c133, c134, c135, c136, c137, c138, c139, c140, c141, c142, c143, c144, c145, c146, c147, c148, c149, c150, c151, c152, c153, c154, c155, c156, c157, c158, c159, c160, c161, c162, c163, c164, c165, c166, c167, c168, c169, c170, c171, c172, c173, c174, c175, c176, c177, c178, c179, c180, c181, c182, c183, c184, c185, c186, c187, c188, c189, c190, c191, c192, c193, c194, c195, c196, c197, c198, c199, c200, c201, c202, c203, c204, c205, c206, c207, c208, c209, c210, c211, c212, c213, c214, c215, c216, c217, c218, c219, c220, c221, c222, c223, c224, c225, c226, c227, c228, c229, c230, c231, c232, c233, c234, c235, c236, c237, c238, c239, c240, c241, c242, c243, c244, c245, c246, c247, c248, c249, c250, c251, c252, c253], []⟩ w := by
  have HS := Lib.hid hS
  have HQ := Lib.hid hQ
  have HP := Lib.hid hP
  have BX := Lib.hid hB
  have SM := Lib.hid hs
  have US := Lib.hid hu
  have eM := Lib.hid hs.M
  have hMs : 3 ≤ (s0.M : Int) ∧ (s0.M : Int) ≤ 5 := by have := hS.rg.arr.many; rw [eM.out] at this; exact this
  have r7 : w.cell? ⟨R, 7, none⟩ = some (.slice (some ⟨q, 0, none⟩) s0.M cap) := by have := hS.rg.rig.cell 7; rw [← eM.out]; exact this
  have DR := Lib.hid (show Dr w q s0.M P.g by rw [← eM.out]; exact hS.rg.row)
  have SML := Lib.hid (show Small (s0.M : Int) s0.b s0.g s0.s s0.n s0.l by have h1 := hS.rg.arr.wf.small; unfold Same at hs; rw [hs] at h1; exact h1)
  clear hS hs hu hB hQ hP
  have hmi : ∀ (x : Value) (w : World), (Instr.makeInterface 68 x).run Try.prog w = .ok (.iface 68 x) w := fun _ _ => by kernel_rfl
  conv => arg 2; whnf
  go_wp2_with fail
  clear r7
  go_loopw [26, 28, 206] (fun v _ i wr => ∃ j : Nat, j ≤ s0.M ∧ i = .int .i64 (j : Int) ∧ Below w.heap.size w wr ∧ wr.ownsRow w.heap.size 96 1 v j ((List.range j).map (fun k => plv (P.g k)))) (fun _ _ i _ => s0.M - (RowKit.intOf i).toNat)
  case atStart => exact ⟨0, Nat.zero_le _, rfl, Below.refl _ _, World.ownsRow_nil _ _ _ _⟩
  case round =>
    obtain ⟨j, hj, rfl, hb, ho⟩ := hrel
    have B1 := Lib.hid hb
    have O1 := Lib.hid ho
    clear hb ho
    by_cases hlt : j < s0.M
    · have hc := (DR.out.below B1.out).2 j hlt
      have bel : Below wr.heap.size wr (wr.alloc (.cells #[plv (P.g j)] 96)) := (Below.refl _ _).alloc (Nat.le_refl _) _
      have BL := Lib.hid bel
      clear bel
      go_wp2_with (at_builtin; refine wpList_append_one (t := 66) (y := plv (P.g j)) rfl (.tmp 210) (.tmp 214) rfl Try.underlying66 dev_info rfl rfl (by decide) w.heap.size u26 _ j rfl (own_below O1.out BL.out) wr.heap.size rfl ((At.new #[plv (P.g j)] 96 rfl).cell 0) (by omega) (by have := B1.out.size; simp; omega) ?_; intro A3 c3 w3x hown hg hf; have O3 := Lib.hid hown; have B3 := Lib.hid ((B1.out.trans (BL.out.mono B1.out.size)).grown hg (by have := B1.out.size; have := BL.out.size; omega) (fun i hi => (O1.out.lt i hi).1)); clear hown hg hf)
      go_roundw
      case rel => exact ⟨j + 1, by omega, by go_num, B3.out, by have := O3.out; rw [List.range_succ, List.map_append]; exact this⟩
      case measure => simp [RowKit.intOf]; omega
    · have hjM : j = s0.M := by omega
      subst hjM
      obtain ⟨rp, cp, e1, hrp, hrl, hcp1, hcp2, hcells⟩ : ∃ rp cp, u26 = .slice (some ⟨rp, 0, none⟩) s0.M cp ∧ w.heap.size ≤ rp ∧ rp < wr.heap.size ∧ s0.M ≤ cp ∧ cp ≤ maxLen ∧ ∀ i, i < s0.M → wr.cell? ⟨rp, i, none⟩ = some (plv (P.g i)) := by
        rcases O1.out.2 with ⟨_, e⟩ | ⟨g, cp, cur, e, hg, hh, h1, h2, h3, h4⟩
        · omega
        · subst e
          refine ⟨g, cp, rfl, hg, (O1.out.lt g rfl).2, h1, h2, fun i hi => ?_⟩
          have := O1.out.cellAt (g := g) (cap := cp) i (by omega)
          rw [this]
          simp [hi]
      subst e1
      have DV := Lib.hid (show Dvp wr rp s0.M (fun i => P.g i) from ⟨hrl, hcells⟩)
      have YS := Lib.hid (HS.out.up B1.out)
      have OFF := Lib.hid (show (∀ k, O k → k ≠ rp) from fun k hk e => by have := HS.out.rg.arr.lt k hk; omega)
      clear hcells hrl O1 DR hlt
      go_wp2_with fail
      have S0 : (fun w' : World => w'.cell? ⟨R, 8, none⟩ = some (ptr P.n) ∧ w'.rangeAt X 0 s0.sh) wr.drew := ⟨YS.out.rg.rig.cell 8, BX.out wr O s YS.out⟩
      refine wp_region_early (fun w' : World => w'.cell? ⟨R, 8, none⟩ = some (ptr P.n) ∧ w'.rangeAt X 0 s0.sh) (fun _ => true) (by kernel_rfl) ?_
      change wpEarly _ _ _ _ _ _ 7 (Array.replicate 7 false) _ wr.drew
      refine early_take (i := 0) 217 (ptr R) rfl rfl (by kernel_rfl) (by kernel_rfl) (by kernel_rfl) (by kernel_rfl) rfl (fun c a w h => HP.out _ _ c a w h) (fun w' hw' => by go_simp) S0 ?_
      simp only [Act.put, List.setIfInBounds_toArray, List.set_cons_zero, List.set_cons_succ]
      refine early_take (i := 1) 218 (ptr R) rfl rfl (by kernel_rfl) (by kernel_rfl) (by kernel_rfl) (by kernel_rfl) rfl (fun c a w h => HP.out _ _ c a w h) (fun w' hw' => by go_simp) S0 ?_
      simp only [Act.put, List.setIfInBounds_toArray, List.set_cons_zero, List.set_cons_succ]
      refine early_take (i := 2) 219 (.pointer (some ⟨R, 8, none⟩)) rfl rfl (by kernel_rfl) (by kernel_rfl) (by kernel_rfl) (by kernel_rfl) rfl (fun c a w h => HP.out _ _ c a w h) (fun w' hw' => by go_simp) S0 ?_
      simp only [Act.put, List.setIfInBounds_toArray, List.set_cons_zero, List.set_cons_succ]
      refine early_take (i := 3) 220 (ptr P.n) rfl rfl (by kernel_rfl) (by kernel_rfl) (by kernel_rfl) (by kernel_rfl) rfl (fun c a w h => HP.out _ _ c a w h) (fun w' hw' => by obtain ⟨k1, k2⟩ := hw'; go_simp) S0 ?_
      simp only [Act.put, List.setIfInBounds_toArray, List.set_cons_zero, List.set_cons_succ]
      refine early_take (i := 4) 221 (sv (s0.M : Int) s0.b s0.g s0.s s0.n s0.l) rfl rfl (by kernel_rfl) (by kernel_rfl) (by kernel_rfl) (by kernel_rfl) rfl (fun c a w h => HP.out _ _ c a w h) (fun w' hw' => exec_shape (s := s0) (x := .tmp 15) rfl rfl hw'.2) S0 ?_
      simp only [Act.put, List.setIfInBounds_toArray, List.set_cons_zero, List.set_cons_succ]
      refine early_take (i := 5) 222 (.agg ((⟨(s0.M : Int), s0.b, s0.g, s0.s, s0.n, s0.l, 0, 0, 1⟩ : Rt)).cs) rfl rfl (by kernel_rfl) (by kernel_rfl) (by kernel_rfl) (by kernel_rfl) rfl (fun c a w h => HP.out _ _ c a w h) (fun w' hw' => by go_simp; rfl) S0 ?_
      simp only [Act.put, List.setIfInBounds_toArray, List.set_cons_zero, List.set_cons_succ]
      refine early_only (i := 6) (by kernel_rfl) rfl (fun K hK => ?_)
      simp only [opWp, List.getElem?_toArray, List.getElem?_cons_succ, List.getElem?_cons_zero]
      go_simp
      go_at_call 39
      obtain ⟨T, hY, hO⟩ := (YS.out.drewN 1).rg.arr
      have hnp : ¬ P.n = P.p := fun e => by have := hY.ap 3 2 _ hY.t3 (e ▸ hY.t2); omega
      have OP := Lib.hid (show O P.n ∧ O P.p from ⟨(hO _).2 ⟨3, hY.t3⟩, (hO _).2 ⟨2, hY.t2⟩⟩)
      refine (set_go s.u (-1) (⟨(s0.M : Int), s0.b, s0.g, s0.s, s0.n, s0.l, 0, 0, 1⟩ : Rt) hY.nv hY.pw hnp ⟨hY.wf.u0, by have := US.out; omega⟩ (by decide) (by decide)).mono ?_
      rintro e w16 ⟨rfl, hn, hp, hb⟩
      have N16 := Lib.hid hn
      have hRO := YS.out.rg.off.1
      have D16 := Lib.hid (show Dvp w16 rp s0.M (fun i => P.g i) from ⟨Nat.lt_of_lt_of_le DV.out.1 hb.size, fun i hi => (hb.cell (p := ⟨rp, i, none⟩) DV.out.1 (fun e => e.elim (fun e => OFF.out _ OP.out.1 e.symm) (fun e => OFF.out _ OP.out.2 e.symm))).trans (DV.out.2 i hi)⟩)
      have A16 := Lib.hid (show At w16 R (rcells s.M s.b s.g s.s s.n s.l P.p (.slice (some ⟨q, 0, none⟩) s.M cap) (ptr P.n) (ptr P.a)) 37 from At.but (show At wr.drew R _ 37 from YS.out.rg.rig) hb (fun e => e.elim (fun e => hRO (e ▸ OP.out.1)) (fun e => hRO (e ▸ OP.out.2))))
      have BSZ := Lib.hid (show wr.heap.size ≤ w16.heap.size from hb.size)
      have B16 := Lib.hid (show Below B w0 w16 from YS.out.below.trans (show Below B wr w16 from ⟨hb.os, hb.tape, hb.output, hb.size, fun k hk => hb.block k (Nat.lt_of_lt_of_le hk YS.out.size) (fun e => e.elim (fun e => by have := YS.out.own _ OP.out.1; omega) (fun e => by have := YS.out.own _ OP.out.2; omega))⟩))
      have e1 : ({ s.rt with stale := 1 } : Rt) = (⟨(s0.M : Int), s0.b, s0.g, s0.s, s0.n, s0.l, 0, 0, 1⟩ : Rt) := by
        have h1 := SM.out
        unfold Same at h1
        rw [h1]
        rfl
      obtain ⟨ar1, ar2⟩ := Arr.setStale (YS.out.drewN 1).rg.arr 1 (by have := eM.out; omega) (by rw [e1]; exact hn) (by have h9 := hp; rw [show less (-1) = -1 by decide] at h9; exact h9) hb
      have YS16 := (YS.out.drewN 1).keep (s' := { s with stale := 1, u := s.u + 1 }) rfl ar1 ar2
      have S16 : (fun w' : World => w'.cell? ⟨R, 8, none⟩ = some (ptr P.n) ∧ w'.rangeAt X 0 s0.sh) w16 := ⟨YS16.rg.rig.cell 8, BX.out w16 O _ YS16⟩
      have B017 := Lib.hid (show R < w16.heap.size from A16.out.lt)
      refine hK _ _ (fun _ => S16) ?_
      clear hY hO hnp hn hp hb hRO S0 S16 YS16 ar1 ar2 e1
      refine early_done (by kernel_rfl) ?_
      have r8 : w16.cell? ⟨R, 8, none⟩ = some (ptr P.n) := A16.out.cell 8
      clear hK
      go_wp2_with fail
      refine (new_pl rp cp P.n P.p s0.M s0.b s0.g s0.s s0.n s0.l 1 (fun i => P.g i) SML.out w16 D16.out N16.out).mono ?_
      rintro e w17 ⟨ay, q2, cap2, rfl, hat, hd, h1, h2, h3, hb⟩
      have AY := Lib.hid hat
      have D17 := Lib.hid hd
      have N17 := Lib.hid (At.below N16.out hb (At.lt N16.out))
      have A17 := Lib.hid (A16.out.below hb A16.out.lt)
      have B17 := Lib.hid (B16.out.trans (hb.mono (Nat.le_trans HS.out.size (Nat.le_trans B1.out.size BSZ.out))))
      have BSZ := Lib.hid (Nat.le_trans BSZ.out hb.size)
      clear hat hd h1 h2 h3 hb r8
      go_wp2_with fail
      have S0 : (fun w' : World => w'.cell? ⟨R, 8, none⟩ = some (ptr P.n)) w17.drew := A17.out.cell 8
      refine wp_region_early (fun w' : World => w'.cell? ⟨R, 8, none⟩ = some (ptr P.n)) (fun _ => true) (by kernel_rfl) ?_
      change wpEarly _ _ _ _ _ _ 12 (Array.replicate 12 false) _ w17.drew
      refine early_take (i := 0) 234 (.slice (some ⟨rp, 0, none⟩) s0.M cp) rfl rfl (by kernel_rfl) (by kernel_rfl) (by kernel_rfl) (by kernel_rfl) rfl (fun c a w h => HP.out _ _ c a w h) (fun w' hw' => by go_simp) S0 ?_
      simp only [Act.put, List.setIfInBounds_toArray, List.set_cons_zero, List.set_cons_succ]
      refine early_take (i := 1) 235 (.slice (some ⟨rp, 1, none⟩) (s0.M - 1) (cp - 1)) rfl rfl (by kernel_rfl) (by kernel_rfl) (by kernel_rfl) (by kernel_rfl) rfl (fun c a w h => HP.out _ _ c a w h) (fun w' hw' => by go_simp; rw [if_pos (show (1 : Int) ≤ (s0.M : Int) by omega), if_neg (show ¬ cp = 1 by omega)]) S0 ?_
      simp only [Act.put, List.setIfInBounds_toArray, List.set_cons_zero, List.set_cons_succ]
      refine early_take (i := 2) 236 (ptr R) rfl rfl (by kernel_rfl) (by kernel_rfl) (by kernel_rfl) (by kernel_rfl) rfl (fun c a w h => HP.out _ _ c a w h) (fun w' hw' => by go_simp) S0 ?_
      simp only [Act.put, List.setIfInBounds_toArray, List.set_cons_zero, List.set_cons_succ]
      refine early_take (i := 3) 237 (ptr R) rfl rfl (by kernel_rfl) (by kernel_rfl) (by kernel_rfl) (by kernel_rfl) rfl (fun c a w h => HP.out _ _ c a w h) (fun w' hw' => by go_simp) S0 ?_
      simp only [Act.put, List.setIfInBounds_toArray, List.set_cons_zero, List.set_cons_succ]
      refine early_take (i := 4) 238 (.pointer (some ⟨R, 8, none⟩)) rfl rfl (by kernel_rfl) (by kernel_rfl) (by kernel_rfl) (by kernel_rfl) rfl (fun c a w h => HP.out _ _ c a w h) (fun w' hw' => by go_simp) S0 ?_
      simp only [Act.put, List.setIfInBounds_toArray, List.set_cons_zero, List.set_cons_succ]
      refine early_take (i := 5) 239 (ptr P.n) rfl rfl (by kernel_rfl) (by kernel_rfl) (by kernel_rfl) (by kernel_rfl) rfl (fun c a w h => HP.out _ _ c a w h) (fun w' hw' => by have k1 : w'.cell? _ = _ := hw'; go_simp) S0 ?_
      simp only [Act.put, List.setIfInBounds_toArray, List.set_cons_zero, List.set_cons_succ]
      refine early_only (i := 6) (by kernel_rfl) rfl (fun K hK => ?_)
      simp only [opWp, List.getElem?_toArray, List.getElem?_cons_succ, List.getElem?_cons_zero]
      go_simp
      go_at_call 40
      refine (new_few (some ⟨rp, 1, none⟩) (s0.M - 1) (cp - 1) P.n P.p s0.M s0.b s0.g s0.s s0.n s0.l 1 (by omega) (by omega) SML.out w17.drew N17.out).mono ?_
      rintro e w18 ⟨rfl, hb⟩
      have AY := Lib.hid (At.below (show At w17.drew ay _ 91 from AY.out) hb AY.out.lt)
      have D18 := Lib.hid (Dvp.below (show Dvp w17.drew q2 s0.M (fun i => P.g i) from ⟨D17.out.1, D17.out.2⟩) hb)
      have N18 := Lib.hid (At.below (show At w17.drew P.n _ _ from N17.out) hb (At.lt N17.out))
      have A18 := Lib.hid (At.below (show At w17.drew R _ 37 from A17.out) hb A17.out.lt)
      have B18 := Lib.hid (B17.out.trans (show Below B w17 w18 from ⟨hb.os, hb.tape, hb.output, hb.size, fun k hk => hb.block k (Nat.lt_of_lt_of_le hk (Nat.le_trans HS.out.size (Nat.le_trans B1.out.size BSZ.out)))⟩))
      have S1 : (fun w' : World => w'.cell? ⟨R, 8, none⟩ = some (ptr P.n)) w18 := A18.out.cell 8
      have BSZ := Lib.hid (Nat.le_trans BSZ.out hb.size)
      clear hb
      refine hK _ _ (fun _ => S1) ?_
      refine early_take (i := 7) 233 (.tuple #[.pointer none, .int .i64 1]) rfl rfl (by kernel_rfl) (by kernel_rfl) (by kernel_rfl) (by kernel_rfl) rfl (fun c a w h => HP.out _ _ c a w h) (fun w' hw' => by go_simp) S1 ?_
      simp only [Act.put, List.setIfInBounds_toArray, List.set_cons_zero, List.set_cons_succ]
      refine early_take (i := 8) 241 (.pointer none) rfl rfl (by kernel_rfl) (by kernel_rfl) (by kernel_rfl) (by kernel_rfl) rfl (fun c a w h => HP.out _ _ c a w h) (fun w' hw' => by go_simp) S1 ?_
      simp only [Act.put, List.setIfInBounds_toArray, List.set_cons_zero, List.set_cons_succ]
      refine early_take (i := 9) 242 (.int .i64 1) rfl rfl (by kernel_rfl) (by kernel_rfl) (by kernel_rfl) (by kernel_rfl) rfl (fun c a w h => HP.out _ _ c a w h) (fun w' hw' => by go_simp) S1 ?_
      simp only [Act.put, List.setIfInBounds_toArray, List.set_cons_zero, List.set_cons_succ]
      refine early_take (i := 10) 31 (.pointer none) rfl rfl (by kernel_rfl) (by kernel_rfl) (by kernel_rfl) (by kernel_rfl) rfl (fun c a w h => HP.out _ _ c a w h) (fun w' hw' => by go_simp) S1 ?_
      simp only [Act.put, List.setIfInBounds_toArray, List.set_cons_zero, List.set_cons_succ]
      refine early_take (i := 11) 32 (.int .i64 1) rfl rfl (by kernel_rfl) (by kernel_rfl) (by kernel_rfl) (by kernel_rfl) rfl (fun c a w h => HP.out _ _ c a w h) (fun w' hw' => by go_simp) S1 ?_
      simp only [Act.put, List.setIfInBounds_toArray, List.set_cons_zero, List.set_cons_succ]
      refine early_done (by kernel_rfl) ?_
      clear S0 S1 hK
      go_wp2_with fail
      refine (Replace_pl ay q2 cap2 P.n P.p s0.M s0.b s0.g s0.s s0.n s0.l (fun i => P.g i) (by omega) w18 AY.out D18.out N18.out).mono ?_
      rintro e w19 ⟨rfl, hb⟩
      have B19 := Lib.hid (B18.out.trans (hb.mono (Nat.le_trans HS.out.size (Nat.le_trans B1.out.size BSZ.out))))
      clear hb
      go_wp2
      exact HQ.out w19 _ _ _ _ _ _ _ _ _ _ _ _ _ _ _ _ _ _ _ _ _ _ _ _ _ _ _ _ _ _ _ _ _ _ _ _ _ _ _ _ _ _ _ _ _ _ _ _ _ _ _ _ _ _ _ _ _ _ _ B19.out

noncomputable def reg13 : Code := (Try.f7.body.bind (findRegion 13)).getD .skip

set_option maxRecDepth 1000000 in
set_option maxHeartbeats 3200000 in
theorem r13_any {w : World} {s0 : AS} {X : Nat} {bd : Bool} (t : Int) (hd : decide (0 ≤ t ∧ t < s0.N) = bd) (hX : At w X #[.int .i64 (s0.M : Int), .int .i64 s0.b, .int .i64 s0.g, .int .i64 s0.s, .int .i64 s0.n, .int .i64 s0.l] 30) (wf : s0.Wf)
    (c0 c1 c3 c4 c5 c6 c7 c8 c9 c10 c11 c12 c13 c14 c16 c17 c18 c19 c20 c21 c22 c23 c24 c25 c26 c27 c28 c29 c30 c31 c32 c33 c34 c35 c36 c37 c38 c39 c40 c41 c42 c43 c44 c45 c46 c47 c48 c49 c50 c51 c52 c53 c54 c55 c56 c57 c58 c59 c60 c61 c62 c63 c64 c65 c66 c67 c68 c69 c70 c71 c72 c73 c74 c75 c76 c77 c78 c79 c80 c81 c82 c83 c84 c85 c86 c87 c88 c89 c90 c91 c92 c93 c94 c95 c96 c97 c98 c99 c100 c101 c102 c103 c104 c105 c106 c107 c108 c109 c110 c111 c112 c113 c114 c115 c116 c117 c118 c119 c120 c121 c122 c123 c124 c125 c126 c127 c128 c129 c130 c131 c132 c133 c134 c135 c136 c137 c138 c139 c140 c141 c142 c143 c144 c145 c146 c147 c148 c149 c150 c151 c152 c153 c154 c155 c156 c157 c158 c159 c160 c161 c162 c163 c164 c165 c166 c167 c168 c169 c170 c171 c172 c173 c174 c175 c176 c177 c178 c179 c180 c181 c182 c183 c184 c185 c186 c187 c188 c189 c190 c191 c192 c193 c194 c195 c196 c197 c198 c199 c200 c201 c202 c203 c204 c205 c206 c207 c208 c209 c210 c211 c212 c213 c214 c215 c216 c217 c218 c219 c220 c221 c222 c223 c224 c225 c226 c227 c228 c229 c230 c231 c232 c233 c234 c235 c236 c237 c238 c239 c240 c241 c242 c243 c244 c245 c246 c247 c248 c249 c250 c251 c252 c253 : Value) (Q : Exit → Act → World → Prop) (hQ : ∀ w' (d72 d73 d74 d75 d76 d77 d78 d79 : Value), Below w.heap.size w w' → Q .normal ⟨#[c0, c1, .int .i64 t, c3, c4, c5, c6, c7, c8, c9, c10, c11, c12, c13, c14, .pointer (some ⟨X, 0, none⟩), c16, c17, c18, c19, c20, .bool bd, c22, c23, c24, c25, c26, c27, c28, c29, c30, c31, c32, c33, c34, c35, c36, c37, c38, c39, c40, c41, c42, c43, c44, c45, c46, c47, c48, c49, c50, c51, c52, c53, c54, c55, c56, c57, c58, c59, c60, c61, c62, c63, c64, c65, c66, c67, c68, c69, c70, c71, d72, d73, d74, d75, d76, d77, d78, d79, c80, c81, c82, c83, c84, c85, c86, c87, c88, c89, c90, c91, c92, c93, c94, c95, c96, c97, c98, c99, c100, c101, c102, c103, c104, c105, c106, c107, c108, c109, c110, c111, c112, c113, c114, c115, c116, c117, c118, c119, c120, c121, c122, c123, c124, c125, c126, c127, c128, c129, c130, c131, c132, c133, c134, c135, c136, c137, c138, c139, c140, c141, c142, c143, c144, c145, c146, c147, c148, c149, c150, c151, c152, c153, c154, c155, c156, c157, c158, c159, c160, c161, c162, c163, c164, c165, c166, c167, c168, c169, c170, c171, c172, c173, c174, c175, c176, c177, c178, c179, c180, c181, c182, c183, c184, c185, c186, c187, c188, c189, c190, c191, c192, c193, c194, c195, c196, c197, c198, c199, c200, c201, c202, c203, c204, c205, c206, c207, c208, c209, c210, c211, c212, c213, c214, c215, c216, c217, c218, c219, c220, c221, c222, c223, c224, c225, c226, c227, c228, c229, c230, c231, c232, c233, c234, c235, c236, c237, c238, c239, c240, c241, c242, c243, c244, c245, c246, c247, c248, c249, c250, c251, c252, c253], []⟩ w') : Code.wp Try.prog reg13 Q ⟨#[c0, c1, .int .i64 t, c3, c4, c5, c6, c7, c8, c9, c10, c11, c12, c13, c14, .pointer (some ⟨X, 0, none⟩), c16, c17, c18, c19, c20, c21, c22, c23, c24, c25, c26, c27, c28, c29, c30, c31, c32, c33, c34, c35, c36, c37, c38, c39, c40, c41, c42, c43, c44, c45, c46, c47, c48, c49, c50, c51, c52, c53, c54, c55, c56, c57, c58, c59, c60, c61, c62, c63, c64, c65, c66, c67, c68, c69, c70, c71, c72, c73, c74, c75, c76, c77, c78, c79, c80, c81, c82, c83, c84, c85, c86, c87, c88, c89, c90, c91, c92, c93, c94, c95, c96, c97, c98, c99, c100, c101, c102, c103, c104, c105, c106, c107, c108, c109, c110, c111, c112, c113, c114, c115, c116, c117, c118, c119, c120, c121, c122, c123, c124, c125, c126, c127, c128, c129, c130, c131, c132, c133, c134, c135, c136, c137, c138, c139, c140, c141, c142, c143, c144, c145, c146, c147, c148, c149, c150, c151, c152, c153, c154, c155, c156, c157, c158, c159, c160, c161, c162, c163, c164, c165, c166, c167, c168, c169, c170, c171, c172, c173, c174, c175, c176, c177, c178, c179, c180, c181, c182, c183, c184, c185, c186, c187, c188, c189, c190, c191, c192, c193, c194, c195, c196, c197, c198, c199, c200, c201, c202, c203, c204, c205, c206, c207, c208, c209, c210, c211, c212, c213, c214, c215, c216, c217, c218, c219, c220, c221, c222, c223, c224, c225, c226, c227, c228, c229, c230, c231, c232, c233, c234, c235, c236, c237, c238, c239, c240, c241, c242, c243, c244, c245, c246, c247, c248, c249, c250, c251, c252, c253], []⟩ w := by
  have HQ := Lib.hid hQ
  have HD := Lib.hid hd
  have c0 : w.cell? ⟨X, 0, none⟩ = some (.int .i64 (s0.M : Int)) := hX.cell 0
  have c1 : w.cell? ⟨X, 1, none⟩ = some (.int .i64 s0.b) := hX.cell 1
  have c2 : w.cell? ⟨X, 2, none⟩ = some (.int .i64 s0.g) := hX.cell 2
  have c3 : w.cell? ⟨X, 3, none⟩ = some (.int .i64 s0.s) := hX.cell 3
  have c4 : w.cell? ⟨X, 4, none⟩ = some (.int .i64 s0.n) := hX.cell 4
  have c5 : w.cell? ⟨X, 5, none⟩ = some (.int .i64 s0.l) := hX.cell 5
  have hM := Lib.hid wf.small.hm
  have WF := Lib.hid wf
  clear hQ hd hX wf
  conv => arg 2; whnf
  by_cases h0 : 0 ≤ t
  · have E7 := Lib.hid (show decide (0 ≤ t ∧ t < s0.N) = decide (t < s0.N) by simp [h0])
    go_wp2_with fail
    refine (all_call WF.out w).mono ?_
    rintro e w7 ⟨rfl, hb⟩
    have B7 := Lib.hid hb
    clear hb c0 c1 c2 c3 c4 c5
    obtain ⟨bx, hbx⟩ : ∃ b : Bool, decide (t < s0.N) = b := ⟨_, rfl⟩
    have BE : bd = bx := by rw [← hbx, ← E7.out]; exact HD.out.symm
    subst BE
    go_wp2
    exact HQ.out w7 _ _ _ _ _ _ _ _ B7.out
  · have BF : bd = false := by rw [← HD.out]; exact decide_eq_false (fun e => h0 e.1)
    subst BF
    go_wp2
    exact HQ.out w _ _ _ _ _ _ _ _ (Below.refl _ _)
noncomputable def reg17 : Code := (Try.f7.body.bind (findRegion 17)).getD .skip

set_option maxRecDepth 1000000 in
set_option maxHeartbeats 3200000 in
theorem r17_any {w : World} {s0 : AS} {X : Nat} {bd : Bool} (i : Int) (hd : decide (0 ≤ i ∧ i < (s0.S : Int)) = bd) (hX : At w X #[.int .i64 (s0.M : Int), .int .i64 s0.b, .int .i64 s0.g, .int .i64 s0.s, .int .i64 s0.n, .int .i64 s0.l] 30) (wf : s0.Wf)
    (c0 c1 c2 c3 c5 c6 c7 c8 c9 c10 c11 c12 c13 c14 c16 c17 c18 c19 c20 c21 c22 c23 c24 c25 c26 c27 c28 c29 c30 c31 c32 c33 c34 c35 c36 c37 c38 c39 c40 c41 c42 c43 c44 c45 c46 c47 c48 c49 c50 c51 c52 c53 c54 c55 c56 c57 c58 c59 c60 c61 c62 c63 c64 c65 c66 c67 c68 c69 c70 c71 c72 c73 c74 c75 c76 c77 c78 c79 c80 c81 c82 c83 c84 c85 c86 c87 c88 c89 c90 c91 c92 c93 c94 c95 c96 c97 c98 c99 c100 c101 c102 c103 c104 c105 c106 c107 c108 c109 c110 c111 c112 c113 c114 c115 c116 c117 c118 c119 c120 c121 c122 c123 c124 c125 c126 c127 c128 c129 c130 c131 c132 c133 c134 c135 c136 c137 c138 c139 c140 c141 c142 c143 c144 c145 c146 c147 c148 c149 c150 c151 c152 c153 c154 c155 c156 c157 c158 c159 c160 c161 c162 c163 c164 c165 c166 c167 c168 c169 c170 c171 c172 c173 c174 c175 c176 c177 c178 c179 c180 c181 c182 c183 c184 c185 c186 c187 c188 c189 c190 c191 c192 c193 c194 c195 c196 c197 c198 c199 c200 c201 c202 c203 c204 c205 c206 c207 c208 c209 c210 c211 c212 c213 c214 c215 c216 c217 c218 c219 c220 c221 c222 c223 c224 c225 c226 c227 c228 c229 c230 c231 c232 c233 c234 c235 c236 c237 c238 c239 c240 c241 c242 c243 c244 c245 c246 c247 c248 c249 c250 c251 c252 c253 : Value) (Q : Exit → Act → World → Prop) (hQ : ∀ w' (d133 d134 d135 d136 d137 d138 d139 d140 : Value), Below w.heap.size w w' → Q .normal ⟨#[c0, c1, c2, c3, .int .i64 i, c5, c6, c7, c8, c9, c10, c11, c12, c13, c14, .pointer (some ⟨X, 0, none⟩), c16, c17, c18, c19, c20, c21, c22, c23, .bool bd, c25, c26, c27, c28, c29, c30, c31, c32, c33, c34, c35, c36, c37, c38, c39, c40, c41, c42, c43, c44, c45, c46, c47, c48, c49, c50, c51, c52, c53, c54, c55, c56, c57, c58, c59, c60, c61, c62, c63, c64, c65, c66, c67, c68, c69, c70, c71, c72, c73, c74, c75, c76, c77, c78, c79, c80, c81, c82, c83, c84, c85, c86, c87, c88, c89, c90, c91, c92, c93, c94, c95, c96, c97, c98, c99, c100, c101, c102, c103, c104, c105, c106, c107, c108, c109, c110, c111, c112, c113, c114, c115, c116, c117, c118, c119, c120, c121, c122, c123, c124, c125, c126, c127, c128, c129, c130, c131, c132, d133, d134, d135, d136, d137, d138, d139, d140, c141, c142, c143, c144, c145, c146, c147, c148, c149, c150, c151, c152, c153, c154, c155, c156, c157, c158, c159, c160, c161, c162, c163, c164, c165, c166, c167, c168, c169, c170, c171, c172, c173, c174, c175, c176, c177, c178, c179, c180, c181, c182, c183, c184, c185, c186, c187, c188, c189, c190, c191, c192, c193, c194, c195, c196, c197, c198, c199, c200, c201, c202, c203, c204, c205, c206, c207, c208, c209, c210, c211, c212, c213, c214, c215, c216, c217, c218, c219, c220, c221, c222, c223, c224, c225, c226, c227, c228, c229, c230, c231, c232, c233, c234, c235, c236, c237, c238, c239, c240, c241, c242, c243, c244, c245, c246, c247, c248, c249, c250, c251, c252, c253], []⟩ w') : Code.wp Try.prog reg17 Q ⟨#[c0, c1, c2, c3, .int .i64 i, c5, c6, c7, c8, c9, c10, c11, c12, c13, c14, .pointer (some ⟨X, 0, none⟩), c16, c17, c18, c19, c20, c21, c22, c23, c24, c25, c26, c27, c28, c29, c30, c31, c32, c33, c34, c35, c36, c37, c38, c39, c40, c41, c42, c43, c44, c45, c46, c47, c48, c49, c50, c51, c52, c53, c54, c55, c56, c57, c58, c59, c60, c61, c62, c63, c64, c65, c66, c67, c68, c69, c70, c71, c72, c73, c74, c75, c76, c77, c78, c79, c80, c81, c82, c83, c84, c85, c86, c87, c88, c89, c90, c91, c92, c93, c94, c95, c96, c97, c98, c99, c100, c101, c102, c103, c104, c105, c106, c107, c108, c109, c110, c111, c112, c113, c114, c115, c116, c117, c118, c119, c120, c121, c122, c123, c124, c125, c126, c127, c128, c129, c130, c131, c132, c133, c134, c135, c136, c137, c138, c139, c140, c141, c142, c143, c144, c145, c146, c147, c148, c149, c150, c151, c152, c153, c154, c155, c156, c157, c158, c159, c160, c161, c162, c163, c164, c165, c166, c167, c168, c169, c170, c171, c172, c173, c174, c175, c176, c177, c178, c179, c180, c181, c182, c183, c184, c185, c186, c187, c188, c189, c190, c191, c192, c193, c194, c195, c196, c197, c198, c199, c200, c201, c202, c203, c204, c205, c206, c207, c208, c209, c210, c211, c212, c213, c214, c215, c216, c217, c218, c219, c220, c221, c222, c223, c224, c225, c226, c227, c228, c229, c230, c231, c232, c233, c234, c235, c236, c237, c238, c239, c240, c241, c242, c243, c244, c245, c246, c247, c248, c249, c250, c251, c252, c253], []⟩ w := by
  have HQ := Lib.hid hQ
  have HD := Lib.hid hd
  have c0 : w.cell? ⟨X, 0, none⟩ = some (.int .i64 (s0.M : Int)) := hX.cell 0
  have c1 : w.cell? ⟨X, 1, none⟩ = some (.int .i64 s0.b) := hX.cell 1
  have c2 : w.cell? ⟨X, 2, none⟩ = some (.int .i64 s0.g) := hX.cell 2
  have c3 : w.cell? ⟨X, 3, none⟩ = some (.int .i64 s0.s) := hX.cell 3
  have c4 : w.cell? ⟨X, 4, none⟩ = some (.int .i64 s0.n) := hX.cell 4
  have c5 : w.cell? ⟨X, 5, none⟩ = some (.int .i64 s0.l) := hX.cell 5
  have hM := Lib.hid wf.small.hm
  have WF := Lib.hid wf
  clear hQ hd hX wf
  conv => arg 2; whnf
  by_cases h0 : 0 ≤ i
  · have E7 := Lib.hid (show decide (0 ≤ i ∧ i < (s0.S : Int)) = decide (i < (s0.S : Int)) by simp [h0])
    go_wp2_with fail
    refine (sectors_call WF.out w).mono ?_
    rintro e w7 ⟨rfl, hb⟩
    have B7 := Lib.hid hb
    clear hb c0 c1 c2 c3 c4 c5
    obtain ⟨bx, hbx⟩ : ∃ b : Bool, decide (i < (s0.S : Int)) = b := ⟨_, rfl⟩
    have BE : bd = bx := by rw [← hbx, ← E7.out]; exact HD.out.symm
    subst BE
    go_wp2
    exact HQ.out w7 _ _ _ _ _ _ _ _ B7.out
  · have BF : bd = false := by rw [← HD.out]; exact decide_eq_false (fun e => h0 e.1)
    subst BF
    go_wp2
    exact HQ.out w _ _ _ _ _ _ _ _ (Below.refl _ _)
noncomputable def reg20 : Code := (Try.f7.body.bind (findRegion 20)).getD .skip

set_option maxRecDepth 1000000 in
set_option maxHeartbeats 3200000 in
theorem r20_any {w : World} {s0 : AS} {X : Nat} {bd : Bool} (m : Int) (hd : decide (0 ≤ m ∧ m < (s0.M : Int)) = bd) (hX : At w X #[.int .i64 (s0.M : Int), .int .i64 s0.b, .int .i64 s0.g, .int .i64 s0.s, .int .i64 s0.n, .int .i64 s0.l] 30) (wf : s0.Wf)
    (c0 c2 c3 c4 c5 c6 c7 c8 c9 c10 c11 c12 c13 c14 c16 c17 c18 c19 c20 c21 c22 c23 c24 c25 c26 c27 c28 c29 c30 c31 c32 c33 c34 c35 c36 c37 c38 c39 c40 c41 c42 c43 c44 c45 c46 c47 c48 c49 c50 c51 c52 c53 c54 c55 c56 c57 c58 c59 c60 c61 c62 c63 c64 c65 c66 c67 c68 c69 c70 c71 c72 c73 c74 c75 c76 c77 c78 c79 c80 c81 c82 c83 c84 c85 c86 c87 c88 c89 c90 c91 c92 c93 c94 c95 c96 c97 c98 c99 c100 c101 c102 c103 c104 c105 c106 c107 c108 c109 c110 c111 c112 c113 c114 c115 c116 c117 c118 c119 c120 c121 c122 c123 c124 c125 c126 c127 c128 c129 c130 c131 c132 c133 c134 c135 c136 c137 c138 c139 c140 c141 c142 c143 c144 c145 c146 c147 c148 c149 c150 c151 c152 c153 c154 c155 c156 c157 c158 c159 c160 c161 c162 c163 c164 c165 c166 c167 c168 c169 c170 c171 c172 c173 c174 c175 c176 c177 c178 c179 c180 c181 c182 c183 c184 c185 c186 c187 c188 c189 c190 c191 c192 c193 c194 c195 c196 c197 c198 c199 c200 c201 c202 c203 c204 c205 c206 c207 c208 c209 c210 c211 c212 c213 c214 c215 c216 c217 c218 c219 c220 c221 c222 c223 c224 c225 c226 c227 c228 c229 c230 c231 c232 c233 c234 c235 c236 c237 c238 c239 c240 c241 c242 c243 c244 c245 c246 c247 c248 c249 c250 c251 c252 c253 : Value) (Q : Exit → Act → World → Prop) (hQ : ∀ w' (d175 d176 d177 d178 d179 d180 d181 d182 : Value), Below w.heap.size w w' → Q .normal ⟨#[c0, .int .i64 m, c2, c3, c4, c5, c6, c7, c8, c9, c10, c11, c12, c13, c14, .pointer (some ⟨X, 0, none⟩), c16, c17, c18, c19, c20, c21, c22, c23, c24, .bool bd, c26, c27, c28, c29, c30, c31, c32, c33, c34, c35, c36, c37, c38, c39, c40, c41, c42, c43, c44, c45, c46, c47, c48, c49, c50, c51, c52, c53, c54, c55, c56, c57, c58, c59, c60, c61, c62, c63, c64, c65, c66, c67, c68, c69, c70, c71, c72, c73, c74, c75, c76, c77, c78, c79, c80, c81, c82, c83, c84, c85, c86, c87, c88, c89, c90, c91, c92, c93, c94, c95, c96, c97, c98, c99, c100, c101, c102, c103, c104, c105, c106, c107, c108, c109, c110, c111, c112, c113, c114, c115, c116, c117, c118, c119, c120, c121, c122, c123, c124, c125, c126, c127, c128, c129, c130, c131, c132, c133, c134, c135, c136, c137, c138, c139, c140, c141, c142, c143, c144, c145, c146, c147, c148, c149, c150, c151, c152, c153, c154, c155, c156, c157, c158, c159, c160, c161, c162, c163, c164, c165, c166, c167, c168, c169, c170, c171, c172, c173, c174, d175, d176, d177, d178, d179, d180, d181, d182, c183, c184, c185, c186, c187, c188, c189, c190, c191, c192, c193, c194, c195, c196, c197, c198, c199, c200, c201, c202, c203, c204, c205, c206, c207, c208, c209, c210, c211, c212, c213, c214, c215, c216, c217, c218, c219, c220, c221, c222, c223, c224, c225, c226, c227, c228, c229, c230, c231, c232, c233, c234, c235, c236, c237, c238, c239, c240, c241, c242, c243, c244, c245, c246, c247, c248, c249, c250, c251, c252, c253], []⟩ w') : Code.wp Try.prog reg20 Q ⟨#[c0, .int .i64 m, c2, c3, c4, c5, c6, c7, c8, c9, c10, c11, c12, c13, c14, .pointer (some ⟨X, 0, none⟩), c16, c17, c18, c19, c20, c21, c22, c23, c24, c25, c26, c27, c28, c29, c30, c31, c32, c33, c34, c35, c36, c37, c38, c39, c40, c41, c42, c43, c44, c45, c46, c47, c48, c49, c50, c51, c52, c53, c54, c55, c56, c57, c58, c59, c60, c61, c62, c63, c64, c65, c66, c67, c68, c69, c70, c71, c72, c73, c74, c75, c76, c77, c78, c79, c80, c81, c82, c83, c84, c85, c86, c87, c88, c89, c90, c91, c92, c93, c94, c95, c96, c97, c98, c99, c100, c101, c102, c103, c104, c105, c106, c107, c108, c109, c110, c111, c112, c113, c114, c115, c116, c117, c118, c119, c120, c121, c122, c123, c124, c125, c126, c127, c128, c129, c130, c131, c132, c133, c134, c135, c136, c137, c138, c139, c140, c141, c142, c143, c144, c145, c146, c147, c148, c149, c150, c151, c152, c153, c154, c155, c156, c157, c158, c159, c160, c161, c162, c163, c164, c165, c166, c167, c168, c169, c170, c171, c172, c173, c174, c175, c176, c177, c178, c179, c180, c181, c182, c183, c184, c185, c186, c187, c188, c189, c190, c191, c192, c193, c194, c195, c196, c197, c198, c199, c200, c201, c202, c203, c204, c205, c206, c207, c208, c209, c210, c211, c212, c213, c214, c215, c216, c217, c218, c219, c220, c221, c222, c223, c224, c225, c226, c227, c228, c229, c230, c231, c232, c233, c234, c235, c236, c237, c238, c239, c240, c241, c242, c243, c244, c245, c246, c247, c248, c249, c250, c251, c252, c253], []⟩ w := by
  have HQ := Lib.hid hQ
  have HD := Lib.hid hd
  have c0 : w.cell? ⟨X, 0, none⟩ = some (.int .i64 (s0.M : Int)) := hX.cell 0
  have c1 : w.cell? ⟨X, 1, none⟩ = some (.int .i64 s0.b) := hX.cell 1
  have c2 : w.cell? ⟨X, 2, none⟩ = some (.int .i64 s0.g) := hX.cell 2
  have c3 : w.cell? ⟨X, 3, none⟩ = some (.int .i64 s0.s) := hX.cell 3
  have c4 : w.cell? ⟨X, 4, none⟩ = some (.int .i64 s0.n) := hX.cell 4
  have c5 : w.cell? ⟨X, 5, none⟩ = some (.int .i64 s0.l) := hX.cell 5
  have hM := Lib.hid wf.small.hm
  have WF := Lib.hid wf
  clear hQ hd hX wf
  conv => arg 2; whnf
  by_cases h0 : 0 ≤ m
  · have E7 := Lib.hid (show decide (0 ≤ m ∧ m < (s0.M : Int)) = decide (m < (s0.M : Int)) by simp [h0])
    obtain ⟨bx, hbx⟩ : ∃ b : Bool, decide (m < (s0.M : Int)) = b := ⟨_, rfl⟩
    have BE : bd = bx := by rw [← hbx, ← E7.out]; exact HD.out.symm
    subst BE
    go_wp2
    exact HQ.out w _ _ _ _ _ _ _ _ (Below.refl _ _)
  · have BF : bd = false := by rw [← HD.out]; exact decide_eq_false (fun e => h0 e.1)
    subst BF
    go_wp2
    exact HQ.out w _ _ _ _ _ _ _ _ (Below.refl _ _)
end Go.Proofs.Ytapbphkhbhcdkaa
